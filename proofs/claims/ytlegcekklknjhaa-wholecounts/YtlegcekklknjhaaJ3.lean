/-
  Texts of mine, joined: what lies beneath the statement.
-/
import Derived.Test.YtlegcekklknjhaaJ2
import Derived.ProofKit
import Derived.OpenShut
import Derived.Below
import Derived.Laws.AppendOwnNone
import Derived.Deep.Cut
import Derived.Test.YtlegcekklknjhaaJ1
import Derived.Deep.RegionHeld3
import Derived.ChangeSame
/-
  Whole numbers as the document's own answers have them; what dendronref02.Make, From, Small, Minus, Order, Plus, Times answer.
-/
namespace Go.Proofs.Ytlegcekklknjhaa
open Go.RowKit
set_option linter.unusedVariables false

/-- The value v is the whole number z, to the base 10000. -/
def RepJ (w : World) (v : Value) (z : Int) : Prop :=
  ∃ ao c, v = .agg #[.bool (decide (z < 0)), .slice ao (nl 10000 z.natAbs) c] ∧ RepD w (.slice ao (nl 10000 z.natAbs) c) z.natAbs
theorem RepJ.below {w w' : World} {v : Value} {z : Int} (h : RepJ w v z) (hb : Below w.heap.size w w') : RepJ w' v z := by
  obtain ⟨ao, c, h1, h2⟩ := h
  exact ⟨ao, c, h1, Nums.below h2 hb⟩
theorem RepJ.open {w : World} {v : Value} {z : Int} (h : RepJ w v z) : ∃ b ao n c, v = .agg #[.bool b, .slice ao n c] := by
  obtain ⟨ao, c, h1, _⟩ := h
  exact ⟨_, _, _, _, h1⟩
theorem RepJ.mk {w : World} {s : Value} {m : Nat} (neg : Bool) (hs : RepD w s m) : RepJ w (.agg #[.bool (neg && !decide (m = 0)), s]) (zof neg m) := by
  obtain ⟨ao, c, rfl, h2⟩ := hs
  refine ⟨ao, c, ?_, ?_⟩
  · rw [zof_abs, zof_neg]
  · rw [zof_abs]; exact ⟨ao, c, rfl, h2⟩
theorem RepJ.nil (w : World) : RepJ w (.agg #[.bool false, .slice none 0 0]) 0 :=
  ⟨none, 0, by simp [nl_zero], by show RepD w (.slice none (nl 10000 0) 0) 0; rw [nl_zero]; unfold RepD; rw [nl_zero]; exact Nums.nil _ _ _⟩
theorem RepJ.store2 {w : World} {v : Value} {z : Int} (h : RepJ w v z) {R m c : Nat} {p : Bool} {ao : Option Addr} (q1 : w.cell? ⟨R, 0, none⟩ = some (.bool p)) (q2 : w.cell? ⟨R, 1, none⟩ = some (.slice ao m c)) (x y : Value) :
    RepJ ((w.setCell ⟨R, 0, none⟩ x).setCell ⟨R, 1, none⟩ y) v z := by
  obtain ⟨ao, c, h1, h2⟩ := h
  exact ⟨ao, c, h1, Nums.store2 h2 q1 q2 x y⟩

set_option maxRecDepth 20000 in
set_option maxHeartbeats 400000 in
theorem rmake_any (neg : Bool) (s : Value) (m : Nat) (w : World) (hs : RepD w s m) :
    Calls Try.prog 15 #[.bool neg, s] w fun e w' => ∃ r, e = .returned r ∧ RepJ w' r (zof neg m) ∧ Below w.heap.size w w' := by
  have hs0 := hs
  obtain ⟨ao, c, rfl, _⟩ := hs
  have hA : ∀ o, Below w.heap.size w (w.alloc o) := fun o => (Below.refl _ _).alloc (Nat.le_refl _) _
  cases neg with
  | false =>
    go_enter Try.func15, Try.ntmps15
    go_wp2
    refine bodyPost_ret (v := .agg #[.bool false, .slice ao (nl 10000 m) c]) (by simp [results, go_sem]) rfl ?_
    exact ⟨_, rfl, RepJ.mk false (Nums.below hs0 (hA _)), hA _⟩
  | true =>
    have hz := nl_eq_zero 10000 m (by decide)
    by_cases h0 : m = 0
    · have hn : nl 10000 m = 0 := hz.2 h0
      have J := RepJ.mk true hs0
      rw [decide_eq_true h0] at J
      rw [hn] at J hs0 ⊢
      go_enter Try.func15, Try.ntmps15
      go_wp2
      refine bodyPost_ret (v := .agg #[.bool false, .slice ao 0 c]) (by simp [results, go_sem]) rfl ?_
      exact ⟨_, rfl, J.below (hA _), hA _⟩
    · have hn : (0 : Int) < (nl 10000 m : Int) := by have : nl 10000 m ≠ 0 := fun h => h0 (hz.1 h); omega
      have J := RepJ.mk true hs0
      rw [decide_eq_false h0] at J
      generalize nl 10000 m = N at *
      go_enter Try.func15, Try.ntmps15
      go_wp2
      refine bodyPost_ret (v := .agg #[.bool true, .slice ao N c]) (by have hn2 : 0 < N := (by omega); simp [results, go_sem, hn2]) rfl ?_
      exact ⟨_, rfl, J.below (hA _), hA _⟩

set_option maxRecDepth 20000 in
set_option maxHeartbeats 1000000 in
theorem rfrom_any (v : Value) (z : Int) (L : Nat) (w : World) (h : IntAt w v z L) (hL : L ≤ 1000) :
    Calls Try.prog 8 #[v] w fun e w' => ∃ r, e = .returned r ∧ RepJ w' r z ∧ Below w.heap.size w w' := by
  obtain ⟨neg, ao, n, c, f, rfl, h, hf, rfl, hn⟩ := h
  have hA : ∀ o o', Below w.heap.size w ((w.alloc o).alloc o') := fun o o' => ((Below.refl _ _).alloc (Nat.le_refl _) _).alloc (by simp) _
  go_enter Try.func8, Try.ntmps8
  go_wp2
  go_region_held3 (fun w' => w'.cell? ⟨w.heap.size, 0, none⟩ = some (.bool neg) ∧ w'.cell? ⟨w.heap.size, 1, none⟩ = some (.slice ao n c)) (first | exact keep2 (by assumption) (by simp) (by assumption) | go_keep) (first
    | (go_at_call 21; refine (from_any _ _ _ _ (h.below (hA _ _).drew) hf (by omega)).mono ?_; rintro e w1 ⟨s, rfl, hs, hb1⟩; have hk1 := keepW hb1 (by simp) (res1 w _ _ _ _))
    | (go_at_call 15; refine (rmake_any _ _ _ _ hs).mono ?_; rintro e w2 ⟨r, rfl, hr, hb2⟩; obtain ⟨b2, ao2, n2, c2, rfl⟩ := hr.open; obtain ⟨q1, q2, q3, q4⟩ := keepW hb2 (Nat.le_refl _) hk1))
  go_wp2
  refine bodyPost_ret (v := .agg #[.bool b2, .slice ao2 n2 c2]) (by simp [results, go_sem, q1, q2]) rfl ?_
  have B1 := (hA _ _).drew.trans (hb1.mono (by simp; omega))
  have B2 := B1.trans (hb2.mono B1.size)
  exact ⟨_, rfl, hr.store2 q1 q2 _ _, below_store2 B2 (by omega) _ _⟩

set_option maxRecDepth 20000 in
set_option maxHeartbeats 1000000 in
theorem rsmall_any (k : Int) (w : World) (h0 : -9223372036854775808 ≤ k) (h1 : k ≤ 9223372036854775807) :
    Calls Try.prog 5 #[.int .i64 k] w fun e w' => ∃ r, e = .returned r ∧ RepJ w' r k ∧ Below w.heap.size w w' := by
  have hA : ∀ o, Below w.heap.size w (w.alloc o) := fun o => (Below.refl _ _).alloc (Nat.le_refl _) _
  by_cases hk : k < 0
  · obtain ⟨K, hK⟩ : ∃ K : Nat, 0 - (k + 1) = (K : Int) := ⟨(0 - (k + 1)).toNat, by omega⟩
    have hz : zof true (K + 1) = k := by rw [zof_true]; omega
    have hb1 : nl 10000 K ≤ 1000000 := Nat.le_trans (nl_small K 2 (by unfold W32; omega)) (by omega)
    have hb2 : nl 10000 1 ≤ 1000000 := Nat.le_trans (nl_small 1 2 (by decide)) (by omega)
    go_enter Try.func5, Try.ntmps5
    go_wp2_with fail
    refine (small_any K _ (by omega)).mono ?_
    rintro e w1 ⟨s1, rfl, hs1, hb1'⟩
    have hk1 := keepW hb1' (by simp) (resW w _ _ _)
    have B1 := (hA _).trans (hb1'.mono (by simp))
    go_wp2_with fail
    refine (small_any 1 _ (by omega)).mono ?_
    rintro e w2 ⟨s2, rfl, hs2, hb2'⟩
    have hk2 := keepW hb2' (Nat.le_refl _) hk1
    have B2 := B1.trans (hb2'.mono B1.size)
    go_wp2_with fail
    refine (plus_any _ _ _ _ _ (Nums.below hs1 hb2') hs2 hb1 hb2).mono ?_
    rintro e w3 ⟨s3, rfl, hs3, hb3'⟩
    have hk3 := keepW hb3' (Nat.le_refl _) hk2
    have B3 := B2.trans (hb3'.mono B2.size)
    go_wp2_with fail
    refine (rmake_any _ _ _ _ hs3).mono ?_
    rintro e w4 ⟨r, rfl, hr, hb4⟩
    obtain ⟨b2, ao2, n2, c2, rfl⟩ := hr.open
    obtain ⟨q1, q2, q3, q4⟩ := keepW hb4 (Nat.le_refl _) hk3
    go_wp2
    (try simp only [Exit.inBlock, Exit.then])
    refine bodyPost_ret (v := .agg #[.bool b2, .slice ao2 n2 c2]) (by simp [results, go_sem, q1, q2]) rfl ?_
    have B4 := B3.trans (hb4.mono B3.size)
    rw [hz] at hr
    exact ⟨_, rfl, hr.store2 q1 q2 _ _, below_store2 B4 (by omega) _ _⟩
  · obtain ⟨K, rfl⟩ : ∃ K : Nat, k = (K : Int) := ⟨k.toNat, by omega⟩
    go_enter Try.func5, Try.ntmps5
    go_wp2_with fail
    refine (small_any K _ (by omega)).mono ?_
    rintro e w1 ⟨s1, rfl, hs1, hb1'⟩
    have hk1 := keepW hb1' (by simp) (resW w _ _ _)
    have B1 := (hA _).trans (hb1'.mono (by simp))
    go_wp2_with fail
    refine (rmake_any _ _ _ _ hs1).mono ?_
    rintro e w4 ⟨r, rfl, hr, hb4⟩
    obtain ⟨b2, ao2, n2, c2, rfl⟩ := hr.open
    obtain ⟨q1, q2, q3, q4⟩ := keepW hb4 (Nat.le_refl _) hk1
    go_wp2
    (try simp only [Exit.inBlock, Exit.then])
    refine bodyPost_ret (v := .agg #[.bool b2, .slice ao2 n2 c2]) (by simp [results, go_sem, q1, q2]) rfl ?_
    have B4 := B1.trans (hb4.mono B1.size)
    rw [zof_false] at hr
    exact ⟨_, rfl, hr.store2 q1 q2 _ _, below_store2 B4 (by omega) _ _⟩

set_option maxRecDepth 20000 in
set_option maxHeartbeats 1000000 in
theorem rorder_any (u v : Value) (x y : Int) (w : World) (hu : RepJ w u x) (hv : RepJ w v y) :
    Calls Try.prog 23 #[u, v] w fun e w' => e = .returned (.int .i64 (cmpI x y)) ∧ Below w.heap.size w w' := by
  obtain ⟨ao, c, rfl, hu⟩ := hu
  obtain ⟨bo, d, rfl, hv⟩ := hv
  have hA : ∀ o o', Below w.heap.size w ((w.alloc o).alloc o') := fun o o' => ((Below.refl _ _).alloc (Nat.le_refl _) _).alloc (by simp) _
  by_cases hx : x < 0
  · rw [decide_eq_true hx]
    by_cases hy : y < 0
    · rw [decide_eq_true hy]
      have HE : Hid (cmpI x y = cmpI y.natAbs x.natAbs) := by show _ = _; unfold cmpI; repeat' split <;> omega
      clear hx hy
      go_enter Try.func23, Try.ntmps23
      go_wp2_with fail
      refine (order_any _ _ _ _ _ (Nums.below hv (hA _ _)) (Nums.below hu (hA _ _))).mono ?_
      rintro e w1 ⟨rfl, hb1⟩
      go_wp2
      go_ret
      exact ⟨by rw [HE.out]; rfl, (hA _ _).trans (hb1.mono (by simp; omega))⟩
    · rw [decide_eq_false hy]
      have HE : Hid (cmpI x y = -1) := cmpI_lt (by omega)
      clear hx hy
      go_enter Try.func23, Try.ntmps23
      go_wp2
      go_ret
      exact ⟨by rw [HE.out]; rfl, hA _ _⟩
  · rw [decide_eq_false hx]
    by_cases hy : y < 0
    · rw [decide_eq_true hy]
      have HE : Hid (cmpI x y = 1) := cmpI_gt (by omega)
      clear hx hy
      go_enter Try.func23, Try.ntmps23
      go_wp2
      go_ret
      exact ⟨by rw [HE.out]; rfl, hA _ _⟩
    · rw [decide_eq_false hy]
      have HE : Hid (cmpI x y = cmpI x.natAbs y.natAbs) := by show _ = _; unfold cmpI; repeat' split <;> omega
      clear hx hy
      go_enter Try.func23, Try.ntmps23
      go_wp2_with fail
      refine (order_any _ _ _ _ _ (Nums.below hu (hA _ _)) (Nums.below hv (hA _ _))).mono ?_
      rintro e w1 ⟨rfl, hb1⟩
      go_wp2
      go_ret
      exact ⟨by rw [HE.out]; rfl, (hA _ _).trans (hb1.mono (by simp; omega))⟩

set_option maxRecDepth 20000 in
set_option maxHeartbeats 2000000 in
theorem rplus_same (p : Bool) (ao : Option Addr) (n c X : Nat) (bo : Option Addr) (m d Y : Nat) (w : World)
    (hu : RepD w (.slice ao n c) X) (hv : RepD w (.slice bo m d) Y) (hX : nl 10000 X ≤ 1000000) (hY : nl 10000 Y ≤ 1000000) :
    Calls Try.prog 7 #[.agg #[.bool p, .slice ao n c], .agg #[.bool p, .slice bo m d]] w fun e w' => ∃ r, e = .returned r ∧ RepJ w' r (zof p (X + Y)) ∧ Below w.heap.size w w' := by
  have hA : ∀ o o' o'', Below w.heap.size w (((w.alloc o).alloc o').alloc o'') := fun o o' o'' => (((Below.refl _ _).alloc (Nat.le_refl _) _).alloc (by simp) _).alloc (by simp; omega) _
  have ne1 : ¬ w.heap.size = w.heap.size + 1 + 1 := by omega
  have ne2 : ¬ w.heap.size + 1 + 1 = w.heap.size := by omega
  obtain ⟨c1, c2, c3, c4⟩ := box_a w 26 26 26 (.bool p) (.slice ao n c) (.bool p) (.slice bo m d) (.bool false) (.slice none 0 0)
  go_enter Try.func7, Try.ntmps7
  go_wp2
  go_region_held3 (fun w' => w'.cell? ⟨w.heap.size, 0, none⟩ = some (.bool p) ∧ w'.cell? ⟨w.heap.size, 1, none⟩ = some (.slice ao n c) ∧ w'.cell? ⟨w.heap.size + 1, 0, none⟩ = some (.bool p) ∧ w'.cell? ⟨w.heap.size + 1, 1, none⟩ = some (.slice bo m d)) (first | exact keep4 (by assumption) (by simp) (by assumption) | go_keep) (first
    | (go_at_call 17; refine (plus_any _ _ _ _ _ (Nums.below hu (hA _ _ _).drew) (Nums.below hv (hA _ _ _).drew) hX hY).mono ?_; rintro e w1 ⟨s, rfl, hs, hb1⟩; have hk1 := keepW hb1 (by simp) (res2 w _ _ _ _ _))
    | (go_at_call 15; refine (rmake_any _ _ _ _ hs).mono ?_; rintro e w2 ⟨r, rfl, hr, hb2⟩; obtain ⟨b2, ao2, n2, c2, rfl⟩ := hr.open; obtain ⟨q1, q2, q3, q4⟩ := keepW hb2 (Nat.le_refl _) hk1))
  go_wp2
  (try simp only [Exit.inBlock, Exit.then])
  refine bodyPost_ret (v := .agg #[.bool b2, .slice ao2 n2 c2]) (by simp [results, go_sem, q1, q2]) rfl ?_
  have B1 := (hA _ _ _).drew.trans (hb1.mono (by simp; omega))
  have B2 := B1.trans (hb2.mono B1.size)
  exact ⟨_, rfl, hr.store2 q1 q2 _ _, below_store2 B2 (by omega) _ _⟩

set_option maxRecDepth 20000 in
set_option maxHeartbeats 2000000 in
theorem rplus_lt (p : Bool) (ao : Option Addr) (n c X : Nat) (bo : Option Addr) (m d Y : Nat) (w : World)
    (hu : RepD w (.slice ao n c) X) (hv : RepD w (.slice bo m d) Y) (hX : nl 10000 X ≤ 1000000) (hY : nl 10000 Y ≤ 1000000) (hc0 : X < Y) :
    Calls Try.prog 7 #[.agg #[.bool p, .slice ao n c], .agg #[.bool (!p), .slice bo m d]] w fun e w' => ∃ r, e = .returned r ∧ RepJ w' r (zof (!p) (Y - X)) ∧ Below w.heap.size w w' := by
  have hA : ∀ o o' o'', Below w.heap.size w (((w.alloc o).alloc o').alloc o'') := fun o o' o'' => (((Below.refl _ _).alloc (Nat.le_refl _) _).alloc (by simp) _).alloc (by simp; omega) _
  have ne1 : ¬ w.heap.size = w.heap.size + 1 + 1 := by omega
  have ne2 : ¬ w.heap.size + 1 + 1 = w.heap.size := by omega
  obtain ⟨c1, c2, c3, c4⟩ := box_a w 26 26 26 (.bool p) (.slice ao n c) (.bool (!p)) (.slice bo m d) (.bool false) (.slice none 0 0)
  have hpq : (p == !p) = false := by cases p <;> rfl
  have hc : cmpI X Y < 0 := by rw [cmpI_lt (by omega)]; omega
  generalize hq : (!p) = q at *
  go_enter Try.func7, Try.ntmps7
  go_wp2_with fail
  refine (order_any _ _ _ _ _ (Nums.below hu (hA _ _ _)) (Nums.below hv (hA _ _ _))).mono ?_
  rintro e w0 ⟨rfl, hb0⟩
  have hk0 := keepW hb0 (by simp) (res2 w _ _ _ _ _)
  obtain ⟨d1, d2, d3, d4⟩ := keep4 hb0 (by simp) ⟨c1, c2, c3, c4⟩
  have B0 : Below w.heap.size w w0 := (hA _ _ _).trans (hb0.mono (by simp; omega))
  clear c1 c2 c3 c4 hq
  generalize cmpI X Y = C at *
  go_wp2
  go_region_held3 (fun w' => w'.cell? ⟨w.heap.size, 0, none⟩ = some (.bool p) ∧ w'.cell? ⟨w.heap.size, 1, none⟩ = some (.slice ao n c) ∧ w'.cell? ⟨w.heap.size + 1, 0, none⟩ = some (.bool q) ∧ w'.cell? ⟨w.heap.size + 1, 1, none⟩ = some (.slice bo m d)) (first | exact keep4 (by assumption) (by simp) (by assumption) | go_keep) (first
    | (go_at_call 20; refine (minus_any _ _ _ _ _ (Nums.below hv B0.drew) (Nums.below hu B0.drew) hY (by omega)).mono ?_; rintro e w1 ⟨s, rfl, hs, hb1⟩; have hk1 := keepW hb1 (Nat.le_refl _) hk0)
    | (go_at_call 15; refine (rmake_any _ _ _ _ hs).mono ?_; rintro e w2 ⟨r, rfl, hr, hb2⟩; obtain ⟨b2, ao2, n2, c2, rfl⟩ := hr.open; obtain ⟨q1, q2, q3, q4⟩ := keepW hb2 (Nat.le_refl _) hk1))
  go_wp2
  (try simp only [Exit.inBlock, Exit.then])
  refine bodyPost_ret (v := .agg #[.bool b2, .slice ao2 n2 c2]) (by simp [results, go_sem, q1, q2]) rfl ?_
  have B1 := B0.drew.trans (hb1.mono B0.size)
  have B2 := B1.trans (hb2.mono B1.size)
  exact ⟨_, rfl, hr.store2 q1 q2 _ _, below_store2 B2 (by omega) _ _⟩

set_option maxRecDepth 20000 in
set_option maxHeartbeats 2000000 in
theorem rplus_ge (p : Bool) (ao : Option Addr) (n c X : Nat) (bo : Option Addr) (m d Y : Nat) (w : World)
    (hu : RepD w (.slice ao n c) X) (hv : RepD w (.slice bo m d) Y) (hX : nl 10000 X ≤ 1000000) (hY : nl 10000 Y ≤ 1000000) (hc0 : Y ≤ X) :
    Calls Try.prog 7 #[.agg #[.bool p, .slice ao n c], .agg #[.bool (!p), .slice bo m d]] w fun e w' => ∃ r, e = .returned r ∧ RepJ w' r (zof p (X - Y)) ∧ Below w.heap.size w w' := by
  have hA : ∀ o o' o'', Below w.heap.size w (((w.alloc o).alloc o').alloc o'') := fun o o' o'' => (((Below.refl _ _).alloc (Nat.le_refl _) _).alloc (by simp) _).alloc (by simp; omega) _
  have ne1 : ¬ w.heap.size = w.heap.size + 1 + 1 := by omega
  have ne2 : ¬ w.heap.size + 1 + 1 = w.heap.size := by omega
  obtain ⟨c1, c2, c3, c4⟩ := box_a w 26 26 26 (.bool p) (.slice ao n c) (.bool (!p)) (.slice bo m d) (.bool false) (.slice none 0 0)
  have hpq : (p == !p) = false := by cases p <;> rfl
  have hc : ¬ cmpI X Y < 0 := by unfold cmpI; rw [if_neg (by omega)]; split <;> omega
  generalize hq : (!p) = q at *
  go_enter Try.func7, Try.ntmps7
  go_wp2_with fail
  refine (order_any _ _ _ _ _ (Nums.below hu (hA _ _ _)) (Nums.below hv (hA _ _ _))).mono ?_
  rintro e w0 ⟨rfl, hb0⟩
  have hk0 := keepW hb0 (by simp) (res2 w _ _ _ _ _)
  obtain ⟨d1, d2, d3, d4⟩ := keep4 hb0 (by simp) ⟨c1, c2, c3, c4⟩
  have B0 : Below w.heap.size w w0 := (hA _ _ _).trans (hb0.mono (by simp; omega))
  clear c1 c2 c3 c4 hq
  generalize cmpI X Y = C at *
  go_wp2
  go_region_held3 (fun w' => w'.cell? ⟨w.heap.size, 0, none⟩ = some (.bool p) ∧ w'.cell? ⟨w.heap.size, 1, none⟩ = some (.slice ao n c) ∧ w'.cell? ⟨w.heap.size + 1, 0, none⟩ = some (.bool q) ∧ w'.cell? ⟨w.heap.size + 1, 1, none⟩ = some (.slice bo m d)) (first | exact keep4 (by assumption) (by simp) (by assumption) | go_keep) (first
    | (go_at_call 20; refine (minus_any _ _ _ _ _ (Nums.below hu B0.drew) (Nums.below hv B0.drew) hX (by omega)).mono ?_; rintro e w1 ⟨s, rfl, hs, hb1⟩; have hk1 := keepW hb1 (Nat.le_refl _) hk0)
    | (go_at_call 15; refine (rmake_any _ _ _ _ hs).mono ?_; rintro e w2 ⟨r, rfl, hr, hb2⟩; obtain ⟨b2, ao2, n2, c2, rfl⟩ := hr.open; obtain ⟨q1, q2, q3, q4⟩ := keepW hb2 (Nat.le_refl _) hk1))
  go_wp2
  (try simp only [Exit.inBlock, Exit.then])
  refine bodyPost_ret (v := .agg #[.bool b2, .slice ao2 n2 c2]) (by simp [results, go_sem, q1, q2]) rfl ?_
  have B1 := B0.drew.trans (hb1.mono B0.size)
  have B2 := B1.trans (hb2.mono B1.size)
  exact ⟨_, rfl, hr.store2 q1 q2 _ _, below_store2 B2 (by omega) _ _⟩

theorem rplus_any (u v : Value) (x y : Int) (w : World) (hu : RepJ w u x) (hv : RepJ w v y) (hX : nl 10000 x.natAbs ≤ 1000000) (hY : nl 10000 y.natAbs ≤ 1000000) :
    Calls Try.prog 7 #[u, v] w fun e w' => ∃ r, e = .returned r ∧ RepJ w' r (x + y) ∧ Below w.heap.size w w' := by
  obtain ⟨ao, c, rfl, hu⟩ := hu
  obtain ⟨bo, d, rfl, hv⟩ := hv
  have e1 := zof_self x
  have e2 := zof_self y
  generalize decide (x < 0) = p at *
  generalize decide (y < 0) = q at *
  rw [← e1, ← e2]
  simp only [zof_abs]
  by_cases hpq : p = q
  · subst hpq
    rw [← zof_add]
    exact rplus_same p ao _ c _ bo _ d _ w hu hv hX hY
  · obtain rfl : q = !p := by cases p <;> cases q <;> simp_all
    by_cases hlt : x.natAbs < y.natAbs
    · rw [Int.add_comm, ← Bool.not_not p, Bool.not_not (!p), ← zof_less _ _ _ (by omega), Bool.not_not p]
      exact rplus_lt p ao _ c _ bo _ d _ w hu hv hX hY hlt
    · rw [← zof_less _ _ _ (by omega)]
      exact rplus_ge p ao _ c _ bo _ d _ w hu hv hX hY (by omega)

set_option maxRecDepth 20000 in
set_option maxHeartbeats 2000000 in
theorem rtimes_raw (p q : Bool) (ao : Option Addr) (n c X : Nat) (bo : Option Addr) (m d Y : Nat) (w : World)
    (hu : RepD w (.slice ao n c) X) (hv : RepD w (.slice bo m d) Y) (hX : nl 10000 X ≤ 1000000) (hY : nl 10000 Y ≤ 1000000) :
    Calls Try.prog 14 #[.agg #[.bool p, .slice ao n c], .agg #[.bool q, .slice bo m d]] w fun e w' => ∃ r, e = .returned r ∧ RepJ w' r (zof p X * zof q Y) ∧ Below w.heap.size w w' := by
  have hA : ∀ o o' o'', Below w.heap.size w (((w.alloc o).alloc o').alloc o'') := fun o o' o'' => (((Below.refl _ _).alloc (Nat.le_refl _) _).alloc (by simp) _).alloc (by simp; omega) _
  have ne1 : ¬ w.heap.size = w.heap.size + 1 + 1 := by omega
  have ne2 : ¬ w.heap.size + 1 + 1 = w.heap.size := by omega
  obtain ⟨c1, c2, c3, c4⟩ := box_a w 26 26 26 (.bool p) (.slice ao n c) (.bool q) (.slice bo m d) (.bool false) (.slice none 0 0)
  go_enter Try.func14, Try.ntmps14
  go_wp2
  go_region_held3 (fun w' => w'.cell? ⟨w.heap.size, 0, none⟩ = some (.bool p) ∧ w'.cell? ⟨w.heap.size, 1, none⟩ = some (.slice ao n c) ∧ w'.cell? ⟨w.heap.size + 1, 0, none⟩ = some (.bool q) ∧ w'.cell? ⟨w.heap.size + 1, 1, none⟩ = some (.slice bo m d)) (first | exact keep4 (by assumption) (by simp) (by assumption) | go_keep) (first
    | (go_at_call 33; refine (times_any _ _ _ _ _ (Nums.below hu (hA _ _ _).drew) (Nums.below hv (hA _ _ _).drew) hX hY).mono ?_; rintro e w1 ⟨s, rfl, hs, hb1⟩; have hk1 := keepW hb1 (by simp) (res2 w _ _ _ _ _))
    | (go_at_call 15; refine (rmake_any _ _ _ _ hs).mono ?_; rintro e w2 ⟨r, rfl, hr, hb2⟩; obtain ⟨b2, ao2, n2, c2, rfl⟩ := hr.open; obtain ⟨q1, q2, q3, q4⟩ := keepW hb2 (Nat.le_refl _) hk1))
  go_wp2
  (try simp only [Exit.inBlock, Exit.then])
  refine bodyPost_ret (v := .agg #[.bool b2, .slice ao2 n2 c2]) (by simp [results, go_sem, q1, q2]) rfl ?_
  have B1 := (hA _ _ _).drew.trans (hb1.mono (by simp; omega))
  have B2 := B1.trans (hb2.mono B1.size)
  rw [zof_mul] at hr
  exact ⟨_, rfl, hr.store2 q1 q2 _ _, below_store2 B2 (by omega) _ _⟩
theorem rtimes_any (u v : Value) (x y : Int) (w : World) (hu : RepJ w u x) (hv : RepJ w v y) (hX : nl 10000 x.natAbs ≤ 1000000) (hY : nl 10000 y.natAbs ≤ 1000000) :
    Calls Try.prog 14 #[u, v] w fun e w' => ∃ r, e = .returned r ∧ RepJ w' r (x * y) ∧ Below w.heap.size w w' := by
  obtain ⟨ao, c, rfl, hu⟩ := hu
  obtain ⟨bo, d, rfl, hv⟩ := hv
  have h := rtimes_raw (decide (x < 0)) (decide (y < 0)) ao _ c _ bo _ d _ w hu hv hX hY
  rw [zof_self, zof_self] at h; exact h

end Go.Proofs.Ytlegcekklknjhaa

/-
  What the statements' own few and kept answer, and limbs as they come in.
-/
namespace Go.Proofs.Ytlegcekklknjhaa
open Go.RowKit

/-- Limbs as they come in, of whatever length. -/
def Raw (w : World) (v : Value) (n : Nat) (f : Nat → Int) : Prop :=
  ∃ ao c, v = .slice ao n c ∧ (ao = none → c = 0) ∧ n ≤ c ∧ c ≤ maxLen ∧ U64 n f ∧ (0 < n → ∃ b off, ao = some ⟨b, off, none⟩ ∧ Cells w .u64 b off n f)

theorem raw_nil (w : World) : Raw w (.slice none 0 0) 0 (fun _ => 0) := ⟨_, _, rfl, fun _ => rfl, Nat.le_refl _, by unfold maxLen; omega, fun i hi => by omega, fun h => by omega⟩
theorem raw_row (w : World) (x : Addr) (len cap : Nat) (zs : List Int) (hl : len ≤ cap) (hm : cap ≤ maxLen) (hz : zs.length = cap)
    (hcell : ∀ i, i < zs.length → w.cell? (x.add i) = some (.int .u64 (zs.getD i 0))) (hw : ∀ n ∈ zs, (Lit.int .u64 n).wf = true) : Raw w (.slice (some x) len cap) len (fun i => zs.getD i 0) := by
  refine ⟨_, _, rfl, fun h => by (cases h), hl, hm, fun i hi => ?_, fun h0 => ?_⟩
  · have hi' : i < zs.length := by omega
    have hmem : zs.getD i 0 ∈ zs := by rw [List.getD_eq_getElem?_getD, List.getElem?_eq_getElem hi']; exact List.getElem_mem hi'
    have := bounds_u64 (hw _ hmem); show 0 ≤ zs.getD i 0 ∧ zs.getD i 0 < 18446744073709551616; omega
  · obtain ⟨b, off, spot⟩ := x
    have hc := hcell 0 (by omega)
    have hspot : spot = none := by simpa [Addr.add] using World.cell?_spot hc
    subst hspot
    refine ⟨b, off, rfl, fun i hi => ?_⟩
    have := hcell i (by omega)
    have e : (⟨b, off, none⟩ : Addr).add i = ⟨b, off + i, none⟩ := by unfold Addr.add; split <;> simp_all
    rw [e] at this; exact this

/-- A slice without an address has no room. -/
def NilOk (v : Value) : Prop := ∀ n c, v = .slice none n c → c = 0
end Go.Proofs.Ytlegcekklknjhaa

/-
  What the statements' own few and awake answer for whole numbers, and dendronref02.Is of a number in its one form.
-/
namespace Go.Proofs.Ytlegcekklknjhaa
open Go.RowKit
set_option linter.unusedVariables false

theorem rightB_rep (m : Nat) : rightB (dg W32 m) (nl W32 m) = true := by
  simp only [rightB, decide_eq_true_eq]
  exact ⟨fun i _ => by have := dg_bounds W32 m i (by decide); unfold W32 at this ⊢; omega, fun h0 => nl_top W32 m h0⟩
theorem refRight_rep {w : World} {v : Value} {m : Nat} (h : Rep w v m) :
    Calls Try.prog 22 #[v] w fun e w' => e = .returned (.bool true) ∧ w' = w := by
  have g := refRight_any v _ _ w h
  rw [rightB_rep] at g; exact g

set_option maxRecDepth 20000 in
set_option maxHeartbeats 2000000 in
theorem ris_rep (u v : Value) (x : Int) (w : World) (hu : RepI w u x) (hx : nl W32 x.natAbs ≤ 1000) (hv : RepJ w v x) :
    Calls Try.prog 9 #[u, v] w fun e w' => e = .returned (.bool true) ∧ Below w.heap.size w w' := by
  have hI := hu.at 1000 hx
  have hJ := hv
  obtain ⟨ao, c, rfl, hu⟩ := hu
  obtain ⟨bo, d, rfl, hv⟩ := hv
  have hA : ∀ o o', Below w.heap.size w ((w.alloc o).alloc o') := fun o o' => ((Below.refl _ _).alloc (Nat.le_refl _) _).alloc (by simp) _
  have c1 := (resW w 31 (.bool (decide (x < 0))) (.slice ao (nl W32 x.natAbs) c))
  have c2 := (res1 w (.cells #[.bool (decide (x < 0)), .slice ao (nl W32 x.natAbs) c] 31) 26 (.bool (decide (x < 0))) (.slice bo (nl 10000 x.natAbs) d))
  have b1 : Below (w.heap.size + 1) (w.alloc (.cells #[.bool (decide (x < 0)), .slice ao (nl W32 x.natAbs) c] 31)) ((w.alloc (.cells #[.bool (decide (x < 0)), .slice ao (nl W32 x.natAbs) c] 31)).alloc (.cells #[.bool (decide (x < 0)), .slice bo (nl 10000 x.natAbs) d] 26)) := (Below.refl _ _).alloc (by simp) _
  have k1 := keep2 b1 (by simp) ⟨c1.1, c1.2.1⟩
  have hSS := And.intro k1.1 (And.intro k1.2 (And.intro c2.1 c2.2.1))
  clear c1 c2 b1 k1
  have hN : nl W32 x.natAbs = 0 ∨ 0 < nl W32 x.natAbs := by omega
  have hzero : nl W32 x.natAbs = 0 → decide (x < 0) = false := fun h => by
    have := (nl_eq_zero W32 x.natAbs (by decide)).1 h
    rw [decide_eq_false_iff_not]; omega
  generalize hn : nl W32 x.natAbs = n at *
  generalize nl 10000 x.natAbs = m at *
  generalize decide (x < 0) = p at *
  have hR : ∀ W, Below w.heap.size w W → Calls Try.prog 22 #[.slice ao n c] W fun e w' => e = .returned (.bool true) ∧ w' = W := fun W hW => refRight_rep (Nums.below hu hW)
  rcases hN with h0 | h0
  · obtain rfl := hzero h0
    subst h0
    have BA : Below w.heap.size w ((w.alloc (.cells #[.bool false, .slice ao 0 c] 31)).alloc (.cells #[.bool false, .slice bo m d] 26)).drew := (hA _ _).drew
    clear hzero
    go_enter Try.func9, Try.ntmps9
    go_wp2
    go_region_held3 (fun w' => w'.cell? ⟨w.heap.size, 0, none⟩ = some (.bool false) ∧ w'.cell? ⟨w.heap.size, 1, none⟩ = some (.slice ao 0 c) ∧ w'.cell? ⟨w.heap.size + 1, 0, none⟩ = some (.bool false) ∧ w'.cell? ⟨w.heap.size + 1, 1, none⟩ = some (.slice bo m d)) (first | exact keep4 (by assumption) (by simp) (by assumption) | exact hSS | go_keep) (first
      | (go_at_call 22; refine (hR _ BA).mono ?_; rintro e w0 ⟨rfl, hw⟩; subst hw)
      | (go_at_call 8; refine (rfrom_any _ _ _ _ (hI.below BA) (Nat.le_refl _)).mono ?_; rintro e w1 ⟨r1, rfl, hr1, hb1⟩)
      | (go_at_call 23; refine (rorder_any _ _ _ _ _ hr1 ((hJ.below BA).below hb1)).mono ?_; rintro e w2 ⟨rfl, hb2⟩; rw [cmpI_eq rfl]))
    go_wp2
    go_ret
    have B1 := BA.trans (hb1.mono BA.size)
    exact ⟨rfl, B1.trans (hb2.mono B1.size)⟩
  · have h0' : decide ((0 : Int) < (n : Int)) = true := by rw [decide_eq_true_eq]; omega
    have h1' : decide (0 < n) = true := by rw [decide_eq_true_eq]; omega
    have BA : Below w.heap.size w ((w.alloc (.cells #[.bool p, .slice ao n c] 31)).alloc (.cells #[.bool p, .slice bo m d] 26)).drew := (hA _ _).drew
    clear hzero
    go_enter Try.func9, Try.ntmps9
    go_wp2
    first
    | go_region_with (first
      | (go_at_call 22; refine (hR _ BA).mono ?_; rintro e w0 ⟨rfl, hw⟩; subst hw)
      | (go_at_call 8; refine (rfrom_any _ _ _ _ (hI.below BA) (Nat.le_refl _)).mono ?_; rintro e w1 ⟨r1, rfl, hr1, hb1⟩; obtain ⟨d1, d2, d3, d4⟩ := keep4 hb1 (by simp) hSS)
      | (go_at_call 23; refine (rorder_any _ _ _ _ _ hr1 ((hJ.below BA).below hb1)).mono ?_; rintro e w2 ⟨rfl, hb2⟩; rw [cmpI_eq rfl]))
    | fail
    all_goals
      go_wp2
      go_ret
      have B1 := BA.trans (hb1.mono BA.size)
      exact ⟨rfl, B1.trans (hb2.mono B1.size)⟩

set_option maxRecDepth 20000 in
set_option maxHeartbeats 400000 in
theorem wfew_any (neg : Bool) (s : Value) (n K : Nat) (f : Nat → Int) (w : World) (h : Raw w s n f) (hK : K ≤ 1000) :
    Calls Try.prog 6 #[.agg #[.bool neg, s], .int .i64 (K : Int)] w fun e w' => ∃ ao c, e = .returned (.agg #[.bool neg, .slice ao (min n K) c]) ∧ Nums .u64 w' (.slice ao (min n K) c) (min n K) f ∧ U64 (min n K) f ∧ Below w.heap.size w w' := by
  have hA : ∀ o o', Below w.heap.size w ((w.alloc o).alloc o') := fun o o' => ((Below.refl _ _).alloc (Nat.le_refl _) _).alloc (by simp) _
  obtain ⟨ao, c, rfl, hnil, hnc, hcm, hu, h4⟩ := h
  unfold maxLen at hcm
  by_cases hlt : K < n
  · obtain ⟨b, off, rfl, hc⟩ := h4 (by omega)
    have hN : Nums .u64 w (.slice (some ⟨b, off, none⟩) K c) K f := ⟨_, _, rfl, by omega, by unfold LIM; omega, fun _ => ⟨_, _, rfl, hc.mono (by omega)⟩⟩
    have hi : (K : Int) < (n : Int) := by omega
    go_enter Try.func6, Try.ntmps6
    go_wp2
    rw [show min n K = K by omega]
    refine bodyPost_ret (v := .agg #[.bool neg, .slice (some ⟨b, off, none⟩) K c]) (by simp [results, go_sem]) rfl ?_
    exact ⟨_, _, rfl, hN.below (hA _ _), fun i hi => hu i (by omega), hA _ _⟩
  · have hN : Nums .u64 w (.slice ao n c) n f := ⟨_, _, rfl, hnc, by unfold LIM; omega, h4⟩
    have hi : ¬ (K : Int) < (n : Int) := by omega
    go_enter Try.func6, Try.ntmps6
    go_wp2
    rw [show min n K = n by omega]
    refine bodyPost_ret (v := .agg #[.bool neg, .slice ao n c]) (by simp [results, go_sem]) rfl ?_
    exact ⟨_, _, rfl, hN.below (hA _ _), hu, hA _ _⟩


theorem nl10_le (x n : Nat) (h : nl W32 x ≤ n) : nl 10000 x ≤ 3 * n := nl_small x n (Nat.lt_of_lt_of_le (lt_pow_nl W32 x (by decide)) (Nat.pow_le_pow_right (by decide) h))
theorem ztxt_q : (ztxt (-4)).toList = [45, 52] := by
  have e : ndec 4 = 1 := by unfold ndec; rw [nl_spec 10 _ 1 (by decide) (by decide)]; decide +kernel
  rw [Lib.toList_data]
  show (({ data := #[45] } : ByteArray) ++ txt 4).data.toList = _
  rw [ByteArray.data_append, Array.toList_append]
  unfold txt; rw [e, strOfNums_data]; decide +kernel
theorem ztxt_r : (ztxt 1).toList = [49] := by
  have e : ndec 1 = 1 := by unfold ndec; rw [nl_spec 10 _ 1 (by decide) (by decide)]; decide +kernel
  rw [Lib.toList_data]
  show (txt 1).data.toList = _
  unfold txt; rw [e, strOfNums_data]; decide +kernel
theorem nl_small7 (k : Nat) (h : k < 4294967296) : nl W32 k ≤ 1 := nl_le W32 k 1 (by decide) (by unfold W32; omega)

set_option maxRecDepth 20000 in
set_option maxHeartbeats 2000000 in
theorem wawake_any (w : World) : Calls Try.prog 11 #[] w fun e w' => e = .returned (.bool true) ∧ Below w.heap.size w w' := by
  go_enter Try.func11, Try.ntmps11
  go_wp2_with fail
  refine (wof_any _ _ (by omega) (by omega)).mono ?_
  rintro e w1 ⟨v1, rfl, hv1, hb1⟩
  go_wp2_with fail
  refine (wof_any _ _ (by omega) (by omega)).mono ?_
  rintro e w2 ⟨v2, rfl, hv2, hb2⟩
  go_wp2_with fail
  refine (wdivMod_any _ _ _ _ 1 1 _ ((hv1.below hb2).at 1 (nl_small7 _ (by decide))) (hv2.at 1 (nl_small7 _ (by decide))) (by omega) (by omega)).mono ?_
  rintro e w3 ⟨q, r, rfl, hq, hr, hb3⟩
  rw [show Int.fdiv (-7) 2 = -4 from rfl] at hq
  rw [show Int.fmod (-7) 2 = 1 from rfl] at hr
  have B1 := hb1
  have B2 := B1.trans (hb2.mono B1.size)
  have B3 := B2.trans (hb3.mono B2.size)
  have hA : ∀ o o', Below w3.heap.size w3 ((w3.alloc o).alloc o') := fun o o' => ((Below.refl _ _).alloc (Nat.le_refl _) _).alloc (by simp) _
  have tq := ztxt_q
  have tr := ztxt_r
  clear hv1 hv2 hb1 hb2 hb3 B1 B2
  obtain ⟨b1, ao1, n1, c1, rfl⟩ := hq.open
  obtain ⟨b2, ao2, n2, c2, rfl⟩ := hr.open
  go_wp2_with fail
  refine (wprint_any _ _ 1 _ ((hq.below (hA _ _)).at 1 (nl_small7 _ (by decide))) (by omega)).mono ?_
  rintro e w4 ⟨rfl, hb4⟩
  obtain ⟨d1, d2, _, _⟩ := keepW hb4 (by simp) (res1 w3 _ _ _ _)
  go_wp2_with fail
  refine (wprint_any _ _ 1 _ (((hr.below (hA _ _)).below hb4).at 1 (nl_small7 _ (by decide))) (by omega)).mono ?_
  rintro e w5 ⟨rfl, hb5⟩
  have B4 := (B3.trans ((hA _ _).mono B3.size)).trans (hb4.mono (by have := B3.size; simp; omega))
  have B5 := B4.trans (hb5.mono B4.size)
  go_wp2
  go_ret
  exact ⟨rfl, B5⟩

end Go.Proofs.Ytlegcekklknjhaa

/-
  Limbs as they come in, variables that are set, and what two numbers are to the document, from world to world.
-/
namespace Go.Proofs.Ytlegcekklknjhaa
open Go.RowKit

theorem Raw.below {w w' : World} {v : Value} {n : Nat} {f : Nat → Int} (h : Raw w v n f) (hb : Below w.heap.size w w') : Raw w' v n f := by
  obtain ⟨ao, c, h1, h2, h3, h4, h5, h6⟩ := h
  exact ⟨ao, c, h1, h2, h3, h4, h5, fun hn => let ⟨b, off, e, hc⟩ := h6 hn; ⟨b, off, e, hc.below hb (hc.lt hn)⟩⟩
theorem Raw.store2 {w : World} {v : Value} {n : Nat} {f : Nat → Int} (h : Raw w v n f) {R m c : Nat} {p : Bool} {ao : Option Addr} (q1 : w.cell? ⟨R, 0, none⟩ = some (.bool p)) (q2 : w.cell? ⟨R, 1, none⟩ = some (.slice ao m c)) (x y : Value) :
    Raw ((w.setCell ⟨R, 0, none⟩ x).setCell ⟨R, 1, none⟩ y) v n f := by
  obtain ⟨bo, d, h1, h2, h3, h4, h5, h6⟩ := h
  refine ⟨bo, d, h1, h2, h3, h4, h5, fun hn => ?_⟩
  obtain ⟨b, off, e, hc⟩ := h6 hn
  refine ⟨b, off, e, fun i hi => ?_⟩
  have hi' := hc i hi
  rw [World.cell?_setCell_other _ _ _ _ (fun e' => by rw [← e', q2] at hi'; cases hi'), World.cell?_setCell_other _ _ _ _ (fun e' => by rw [← e', q1] at hi'; cases hi')]
  exact hi'

/-- A variable for a struct of two cells that may be written, set. -/
theorem put2_same {w : World} {R : Nat} {x y x' y' : Value} (h : w.cell? ⟨R, 0, none⟩ = some x ∧ w.cell? ⟨R, 1, none⟩ = some y ∧ w.frozen? ⟨R, 0, none⟩ = false ∧ w.frozen? ⟨R, 1, none⟩ = false) :
    ((w.setCell ⟨R, 0, none⟩ x').setCell ⟨R, 1, none⟩ y').cell? ⟨R, 0, none⟩ = some x' ∧ ((w.setCell ⟨R, 0, none⟩ x').setCell ⟨R, 1, none⟩ y').cell? ⟨R, 1, none⟩ = some y' ∧
    ((w.setCell ⟨R, 0, none⟩ x').setCell ⟨R, 1, none⟩ y').frozen? ⟨R, 0, none⟩ = false ∧ ((w.setCell ⟨R, 0, none⟩ x').setCell ⟨R, 1, none⟩ y').frozen? ⟨R, 1, none⟩ = false := by
  obtain ⟨h1, h2, h3, h4⟩ := h
  refine ⟨?_, ?_, by simp [h3], by simp [h4]⟩
  · rw [World.cell?_setCell_other _ _ _ _ (fun e => by injection e; omega)]; exact World.cell?_setCell_same _ _ _ h1
  · exact World.cell?_setCell_same _ _ _ (show (w.setCell ⟨R, 0, none⟩ x').cell? ⟨R, 1, none⟩ = some y by rw [World.cell?_setCell_other _ _ _ _ (fun e => by injection e; omega)]; exact h2)
theorem put2_other {w : World} {R R' : Nat} {x y x' y' : Value} (hne : R' ≠ R) (h : w.cell? ⟨R', 0, none⟩ = some x ∧ w.cell? ⟨R', 1, none⟩ = some y ∧ w.frozen? ⟨R', 0, none⟩ = false ∧ w.frozen? ⟨R', 1, none⟩ = false) :
    ((w.setCell ⟨R, 0, none⟩ x').setCell ⟨R, 1, none⟩ y').cell? ⟨R', 0, none⟩ = some x ∧ ((w.setCell ⟨R, 0, none⟩ x').setCell ⟨R, 1, none⟩ y').cell? ⟨R', 1, none⟩ = some y ∧
    ((w.setCell ⟨R, 0, none⟩ x').setCell ⟨R, 1, none⟩ y').frozen? ⟨R', 0, none⟩ = false ∧ ((w.setCell ⟨R, 0, none⟩ x').setCell ⟨R, 1, none⟩ y').frozen? ⟨R', 1, none⟩ = false := by
  obtain ⟨h1, h2, h3, h4⟩ := h
  refine ⟨?_, ?_, by simp [h3], by simp [h4]⟩
  · rw [World.cell?_setCell_other _ _ _ _ (fun e => by injection e; omega), World.cell?_setCell_other _ _ _ _ (fun e => by injection e; omega)]; exact h1
  · rw [World.cell?_setCell_other _ _ _ _ (fun e => by injection e; omega), World.cell?_setCell_other _ _ _ _ (fun e => by injection e; omega)]; exact h2

/-- Two numbers that came in and what they are to the document, in a world behind wb. -/
structure Four (B : Nat) (wb : World) (va vb vx vy : Value) (x y : Int) (L : Nat) (w : World) : Prop where
  bel : Below B wb w
  a : IntAt w va x L
  b : IntAt w vb y L
  jx : RepJ w vx x
  jy : RepJ w vy y
theorem Four.next {B : Nat} {wb : World} {va vb vx vy : Value} {x y : Int} {L : Nat} {w w' : World} (h : Four B wb va vb vx vy x y L w) (hB : B ≤ w.heap.size) (hb : Below w.heap.size w w') : Four B wb va vb vx vy x y L w' :=
  ⟨h.bel.trans (hb.mono hB), h.a.below hb, h.b.below hb, h.jx.below hb, h.jy.below hb⟩
theorem keep44 {w w' : World} {B : Nat} {a b c d a' b' c' d' : Addr} {x y z t x' y' z' t' : Value} (hb : Below B w w') (hB : w.heap.size ≤ B) (h : w.cell? a = some x ∧ w.cell? b = some y ∧ w.cell? c = some z ∧ w.cell? d = some t ∧ w.cell? a' = some x' ∧ w.cell? b' = some y' ∧ w.cell? c' = some z' ∧ w.cell? d' = some t') :
    w'.cell? a = some x ∧ w'.cell? b = some y ∧ w'.cell? c = some z ∧ w'.cell? d = some t ∧ w'.cell? a' = some x' ∧ w'.cell? b' = some y' ∧ w'.cell? c' = some z' ∧ w'.cell? d' = some t' :=
  ⟨(keep2 hb hB ⟨h.1, h.2.1⟩).1, (keep2 hb hB ⟨h.1, h.2.1⟩).2, (keep2 hb hB ⟨h.2.2.1, h.2.2.2.1⟩).1, (keep2 hb hB ⟨h.2.2.1, h.2.2.2.1⟩).2, keep4 hb hB h.2.2.2.2⟩


theorem IntAt.nl {w : World} {v : Value} {z : Int} {L : Nat} (h : IntAt w v z L) : nl W32 z.natAbs ≤ L := by
  obtain ⟨neg, ao, n, c, f, _, _, _, rfl, hn⟩ := h
  rw [zof_abs]
  exact Nat.le_trans (nl_le W32 _ n (by decide) (num_lt f n)) hn
theorem abs_lt_pow {z : Int} {a : Nat} (h : nl W32 z.natAbs ≤ a) : z.natAbs < W32 ^ a :=
  Nat.lt_of_lt_of_le (lt_pow_nl W32 _ (by decide)) (Nat.pow_le_pow_right (by decide) h)
theorem nlz_add {x y : Int} {a b c : Nat} (hx : nl W32 x.natAbs ≤ a) (hy : nl W32 y.natAbs ≤ b) (h1 : a < c) (h2 : b < c) : nl W32 (x + y).natAbs ≤ c := by
  apply nl_le W32 _ _ (by decide)
  obtain ⟨c, rfl⟩ : ∃ k, c = k + 1 := ⟨c - 1, by omega⟩
  have h3 := Nat.lt_of_lt_of_le (abs_lt_pow hx) (Nat.pow_le_pow_right (n := W32) (by decide) (show a ≤ c by omega))
  have h4 := Nat.lt_of_lt_of_le (abs_lt_pow hy) (Nat.pow_le_pow_right (n := W32) (by decide) (show b ≤ c by omega))
  have h5 : W32 ^ (c + 1) = W32 ^ c * W32 := Nat.pow_succ _ _
  have h6 : W32 ^ c * 2 ≤ W32 ^ c * W32 := Nat.mul_le_mul_left _ (by decide)
  generalize W32 ^ c = P at *
  omega
theorem nlz_mul {x y : Int} {a b c : Nat} (hx : nl W32 x.natAbs ≤ a) (hy : nl W32 y.natAbs ≤ b) (h : a + b ≤ c) : nl W32 (x * y).natAbs ≤ c := by
  apply nl_le W32 _ _ (by decide)
  rw [Int.natAbs_mul]
  have h1 : x.natAbs * y.natAbs < W32 ^ a * W32 ^ b := Nat.mul_lt_mul'' (abs_lt_pow hx) (abs_lt_pow hy)
  rw [← Nat.pow_add] at h1
  exact Nat.lt_of_lt_of_le h1 (Nat.pow_le_pow_right (by decide) h)
theorem nlz_neg {x : Int} {a : Nat} (hx : nl W32 x.natAbs ≤ a) : nl W32 (-x).natAbs ≤ a := by rw [Int.natAbs_neg]; exact hx
theorem nlj {x : Int} {a : Nat} (hx : nl W32 x.natAbs ≤ a) (ha : a ≤ 1000) : nl 10000 x.natAbs ≤ 1000000 := Nat.le_trans (nl10_le _ _ hx) (by omega)

end Go.Proofs.Ytlegcekklknjhaa

/-
  What nat.Pow and nat.PowMod answer, and the document's own Power.
-/
namespace Go.Proofs.Ytlegcekklknjhaa
open Go.RowKit

theorem nl_of_lt (x M l : Nat) (h : x < M) (hl : nl W32 M ≤ l) : nl W32 x ≤ l :=
  nl_le W32 _ _ (by decide) (Nat.lt_trans h (Nat.lt_of_lt_of_le (lt_pow_nl W32 M (by decide)) (Nat.pow_le_pow_right (by decide) hl)))
theorem nl_mul (x y a b : Nat) (hx : nl W32 x ≤ a) (hy : nl W32 y ≤ b) : nl W32 (x * y) ≤ a + b := by
  refine nl_le W32 _ _ (by decide) ?_
  rw [Nat.pow_add]
  exact Nat.mul_lt_mul_of_lt_of_lt (Nat.lt_of_lt_of_le (lt_pow_nl W32 x (by decide)) (Nat.pow_le_pow_right (by decide) hx)) (Nat.lt_of_lt_of_le (lt_pow_nl W32 y (by decide)) (Nat.pow_le_pow_right (by decide) hy))

theorem mod_step0 (x E i M : Nat) (h : E / 2 ^ i % 2 = 0) : (x ^ (E / 2 ^ (i + 1)) % M) * (x ^ (E / 2 ^ (i + 1)) % M) % M = x ^ (E / 2 ^ i) % M := by
  have hp := half_pow x E i
  rw [h, Nat.pow_zero, Nat.mul_one] at hp
  rw [← Nat.mul_mod, hp]
theorem mod_step1 (x E i M : Nat) (h : E / 2 ^ i % 2 = 1) : ((x ^ (E / 2 ^ (i + 1)) % M) * (x ^ (E / 2 ^ (i + 1)) % M) % M) * (x % M) % M = x ^ (E / 2 ^ i) % M := by
  have hp := half_pow x E i
  rw [h, Nat.pow_one] at hp
  rw [← Nat.mul_mod (x ^ (E / 2 ^ (i + 1))) (x ^ (E / 2 ^ (i + 1))) M, ← Nat.mul_mod _ x M, hp]

theorem nl10_pow (x l n : Nat) (h : x < W32 ^ l) : nl 10000 (x ^ n) ≤ 3 * (l * n + 1) := by
  refine nl_small _ _ ?_
  have h2 : x ^ n ≤ (W32 ^ l) ^ n := Nat.pow_le_pow_left (Nat.le_of_lt h) n
  rw [← Nat.pow_mul] at h2
  have h3 : W32 ^ (l * n) < W32 ^ (l * n + 1) := Nat.pow_lt_pow_right (by decide) (by omega)
  omega

end Go.Proofs.Ytlegcekklknjhaa

/-
  What whole.Pow and dendronref02.Power answer.
-/
namespace Go.Proofs.Ytlegcekklknjhaa
open Go.RowKit
set_option linter.unusedVariables false

theorem zof_pow (p : Bool) (X k : Nat) : zof (p && decide (k % 2 = 1)) (X ^ k) = (zof p X) ^ k := by
  cases p with
  | false => simp [zof]
  | true =>
    simp only [Bool.true_and, zof_true]
    induction k with
    | zero => simp [zof]
    | succ k ih =>
      rw [Int.pow_succ, ← ih, Nat.pow_succ]
      rcases Nat.mod_two_eq_zero_or_one k with h | h
      · have e1 : decide (k % 2 = 1) = false := by rw [decide_eq_false_iff_not]; omega
        have e2 : decide ((k + 1) % 2 = 1) = true := by rw [decide_eq_true_eq]; omega
        rw [e1, e2, zof_false, zof_true, Int.natCast_mul, Int.mul_neg]
      · have e1 : decide (k % 2 = 1) = true := by rw [decide_eq_true_eq]; omega
        have e2 : decide ((k + 1) % 2 = 1) = false := by rw [decide_eq_false_iff_not]; omega
        rw [e1, e2, zof_false, zof_true, Int.natCast_mul, Int.neg_mul_neg]

theorem nlz_pow {x : Int} {l n : Nat} (h : nl W32 x.natAbs ≤ l) : nl W32 (x ^ n).natAbs ≤ l * n + 1 := by
  rw [Int.natAbs_pow]; exact nl_pow _ _ _ h

end Go.Proofs.Ytlegcekklknjhaa

/-
  What whole.Fact and whole.Choose answer.
-/
namespace Go.Proofs.Ytlegcekklknjhaa
open Go.RowKit
set_option linter.unusedVariables false

/-- The product of all numbers from 1 to n. -/
def factN : Nat → Nat
  | 0 => 1
  | n + 1 => factN n * (n + 1)
theorem nl_mul_small (x k l : Nat) (hx : nl W32 x ≤ l) (hk : k < W32) : nl W32 (x * k) ≤ l + 1 := by
  refine nl_le W32 _ _ (by decide) ?_
  have h1 := Nat.lt_of_lt_of_le (lt_pow_nl W32 x (by decide)) (Nat.pow_le_pow_right (n := W32) (by decide) hx)
  rw [Nat.pow_succ]
  exact Nat.mul_lt_mul_of_lt_of_le h1 (Nat.le_of_lt hk) (by decide)
theorem nl_fact (n : Nat) (hn : n < 4294967295) : nl W32 (factN n) ≤ n + 1 := by
  induction n with
  | zero => exact Nat.le_trans (nl_le W32 1 1 (by decide) (by decide)) (by omega)
  | succ n ih => exact Nat.le_trans (nl_mul_small _ _ (n + 1) (ih (by omega)) (by unfold W32; omega)) (by omega)

/-- The ways to take k of n things. -/
def waysN : Nat → Nat → Nat
  | _, 0 => 1
  | 0, _ + 1 => 0
  | n + 1, k + 1 => waysN n k + waysN n (k + 1)
theorem ways_zero (n : Nat) : waysN n 0 = 1 := by cases n <;> rfl
theorem ways_none : ∀ (n k : Nat), n < k → waysN n k = 0 := by
  intro n
  induction n with
  | zero => intro k hk; cases k with
    | zero => omega
    | succ k => rfl
  | succ n ih => intro k hk; cases k with
    | zero => omega
    | succ k => show waysN n k + waysN n (k + 1) = 0; rw [ih k (by omega), ih (k + 1) (by omega)]
theorem ways_all : ∀ n, waysN n n = 1 := by
  intro n
  induction n with
  | zero => rfl
  | succ n ih => show waysN n n + waysN n (n + 1) = 1; rw [ih, ways_none n (n + 1) (by omega)]
/-- One more is taken. -/
theorem ways_step : ∀ (n k : Nat), waysN n (k + 1) * (k + 1) = waysN n k * (n - k) := by
  intro n
  induction n with
  | zero => intro k; cases k <;> simp [waysN]
  | succ n ih =>
    intro k
    by_cases hk : n < k
    · rw [ways_none (n + 1) (k + 1) (by omega), show n + 1 - k = 0 by omega]; simp
    have e1 : n + 1 - k = n - k + 1 := by omega
    cases k with
    | zero =>
      have h0 := ih 0
      show (waysN n 0 + waysN n 1) * 1 = waysN (n + 1) 0 * (n + 1)
      rw [ways_zero] at h0 ⊢
      rw [ways_zero]; simp at h0 ⊢; omega
    | succ k =>
      have h1 := ih k
      have h2 := ih (k + 1)
      show (waysN n (k + 1) + waysN n (k + 1 + 1)) * (k + 1 + 1) = (waysN n k + waysN n (k + 1)) * (n + 1 - (k + 1))
      have e2 : n + 1 - (k + 1) = n - k := by omega
      have e3 : n - k = n - (k + 1) + 1 := by omega
      rw [e2]
      generalize waysN n (k + 1) = A at *
      generalize waysN n (k + 1 + 1) = B at *
      generalize waysN n k = C at *
      rw [e3] at h1 ⊢
      generalize n - (k + 1) = D at *
      grind
theorem ways_sym (n k : Nat) (h : k ≤ n) : waysN n k * (factN k * factN (n - k)) = factN n := by
  induction n generalizing k with
  | zero => (have e : k = 0 := by omega); subst e; decide
  | succ n ih =>
    cases k with
    | zero => rw [ways_zero]; simp [factN]
    | succ k =>
      show (waysN n k + waysN n (k + 1)) * (factN k * (k + 1) * factN (n + 1 - (k + 1))) = factN n * (n + 1)
      have h1 := ih k (by omega)
      have e1 : n + 1 - (k + 1) = n - k := by omega
      rw [e1]
      by_cases hk : k + 1 ≤ n
      · have h2 := ih (k + 1) hk
        have e2 : n - k = n - (k + 1) + 1 := by omega
        rw [e2] at h1 ⊢
        have h3 : factN (k + 1) = factN k * (k + 1) := rfl
        have h4 : factN (n - (k + 1) + 1) = factN (n - (k + 1)) * (n - (k + 1) + 1) := rfl
        rw [h3] at h2
        rw [h4] at h1 ⊢
        have e3 : n + 1 = (k + 1) + (n - (k + 1) + 1) := by omega
        rw [e3]
        generalize n - (k + 1) = D at *
        generalize factN D = P at *
        generalize factN k = Q at *
        generalize waysN n k = C at *
        generalize waysN n (k + 1) = B at *
        grind
      · obtain rfl : k = n := by omega
        rw [ways_none k (k + 1) (by omega)]
        simp at h1 ⊢
        simp [factN] at h1 ⊢
        grind
theorem fact_pos : ∀ n, 0 < factN n
  | 0 => by decide
  | n + 1 => Nat.mul_pos (fact_pos n) (by omega)
theorem ways_flip (n k : Nat) (h : k ≤ n) : waysN n (n - k) = waysN n k := by
  have h1 := ways_sym n k h
  have h2 := ways_sym n (n - k) (by omega)
  rw [show n - (n - k) = k by omega, Nat.mul_comm (factN (n - k))] at h2
  exact Nat.eq_of_mul_eq_mul_right (Nat.mul_pos (fact_pos k) (fact_pos (n - k))) (h2.trans h1.symm)
theorem ways_le (n k : Nat) : waysN n k ≤ 2 ^ n := by
  induction n generalizing k with
  | zero => cases k <;> simp [waysN]
  | succ n ih => cases k with
    | zero => rw [ways_zero]; exact Nat.one_le_two_pow
    | succ k => have h1 := ih k; have h2 := ih (k + 1); show waysN n k + waysN n (k + 1) ≤ 2 ^ (n + 1); rw [Nat.pow_succ]; omega
theorem nl_ways (n k : Nat) : nl W32 (waysN n k) ≤ n + 1 := by
  refine nl_le W32 _ _ (by decide) (Nat.lt_of_le_of_lt (ways_le n k) ?_)
  have h1 : 2 ^ n ≤ W32 ^ n := Nat.pow_le_pow_left (by decide) n
  rw [Nat.pow_succ]
  have h2 : 0 < W32 ^ n := Nat.pow_pos (by decide)
  unfold W32 at *; omega

set_option maxRecDepth 20000 in
set_option maxHeartbeats 2000000 in
theorem fact_any (n : Nat) (w : World) (hn : n ≤ 4096) :
    Calls Try.prog 12 #[.int .i64 (n : Int)] w fun e w' => ∃ r, e = .returned (.tuple #[r, .int .i64 0]) ∧ RepI w' r (factN n : Int) ∧ Below w.heap.size w w' := by
  have g1 : ¬ (n : Int) < 0 := by omega
  have g2 : ¬ (n : Int) > 4096 := by omega
  have hA : Below w.heap.size w (w.alloc (.cells #[.bool false, .slice none 0 0] 31)) := (Below.refl _ _).alloc (Nat.le_refl _) _
  have k1 := resW w 31 (.bool false) (.slice none 0 0)
  have HN : Hid (∀ i, i ≤ n → nl W32 (factN i) ≤ 4097) := fun i hi => Nat.le_trans (nl_fact i (by omega)) (by omega)
  go_enter Try.func12, Try.ntmps12
  go_wp2_with fail
  generalize w.alloc (.cells #[.bool false, .slice none 0 0] 31) = W0 at *
  refine (of_any 1 _ (by omega) (by omega)).mono ?_
  rintro e w3 ⟨o3, rfl, ho3, hb3⟩
  replace ho3 : Rep w3 o3 1 := ho3.nums
  go_wp2
  go_loopw [4, 15] (fun vo vi wr => ∃ i : Nat, i ≤ n ∧ vi = .int .i64 (i : Int) ∧ Rep wr vo (factN i) ∧ Below W0.heap.size W0 wr) (fun _ vi _ => (n - intOf vi).toNat)
  case atStart => exact ⟨0, by omega, rfl, ho3, hb3⟩
  case round =>
    clear ho3 hb3
    obtain ⟨i, hi, rfl, hro, hbel⟩ := hrel
    by_cases hlt : i < n
    · have j1 : (i : Int) < (n : Int) := by omega
      have e1 : IntKind.u64.wrap ((i : Int) + 1) = ((i + 1 : Nat) : Int) := by rw [IntKind.wrap_u64]; omega
      have hl := HN.out i hi
      go_wp2_with fail
      refine (of_any ((i + 1 : Nat) : Int) _ (by omega) (by omega)).mono ?_
      rintro e w4 ⟨o4, rfl, ho4, hb4⟩
      replace ho4 : Rep w4 o4 (i + 1) := ho4.nums
      have hl4 : nl W32 (i + 1) ≤ 1 := nl_le W32 _ 1 (by decide) (by unfold W32; omega)
      go_wp2_with fail
      refine (mul_wide _ _ _ _ _ _ _ (Nums.below hro hb4) ho4 (u64_dg _ _) (u64_dg _ _) (by omega)).mono ?_
      rw [num_nl, num_nl]
      rintro e w5 ⟨r5, rfl, hr5, hb5⟩
      have B4 := hbel.trans (hb4.mono hbel.size)
      have B5 := B4.trans (hb5.mono B4.size)
      have hr5' : Rep w5 r5 (factN (i + 1)) := hr5.nums
      clear hro hbel hr5 hb4 hb5 B4 ho4
      go_wp2
      go_roundw
      case rel => exact ⟨i + 1, by omega, by go_num, hr5', B5⟩
      case measure => simp [intOf]; omega
    · have j1 : ¬ (i : Int) < (n : Int) := by omega
      obtain rfl : i = n := by omega
      go_wp2_with fail
      refine (signed_any false _ _ _ hro).mono ?_
      rintro e w2 ⟨r, rfl, hr, hb2⟩
      obtain ⟨b2, ao2, n2, c2, rfl⟩ := hr.open
      have C2 := hbel.trans (hb2.mono hbel.size)
      obtain ⟨q1, q2, q3, q4⟩ := keepW C2 (Nat.le_refl _) k1
      have BF := hA.trans (C2.mono hA.size)
      go_wp2
      (try simp only [Exit.inBlock, Exit.then])
      refine bodyPost_ret (v := .tuple #[.agg #[.bool b2, .slice ao2 n2 c2], .int .i64 0]) (by simp [results, go_sem, q1, q2]) rfl ?_
      rw [zof_false] at hr
      exact ⟨_, rfl, hr.store2 q1 q2 _ _, below_store2 BF (by omega) _ _⟩

set_option maxRecDepth 20000 in
set_option maxHeartbeats 1000000 in
theorem fact_range (n : Int) (w : World) (hn : n < 0 ∨ 4096 < n) :
    Calls Try.prog 12 #[.int .i64 n] w fun e w' => ∃ r, e = .returned (.tuple #[r, .int .i64 8]) ∧ RepI w' r 0 ∧ Below w.heap.size w w' := by
  have hA : Below w.heap.size w (w.alloc (.cells #[.bool false, .slice none 0 0] 31)) := (Below.refl _ _).alloc (Nat.le_refl _) _
  have k1 := resW w 31 (.bool false) (.slice none 0 0)
  obtain ⟨q1, q2, q3, q4⟩ := k1
  by_cases g : n < 0
  · go_enter Try.func12, Try.ntmps12
    go_wp2
    (try simp only [Exit.inBlock, Exit.then])
    refine bodyPost_ret (v := .tuple #[.agg #[.bool false, .slice none 0 0], .int .i64 8]) (by simp [results, go_sem, q1, q2]) rfl ?_
    exact ⟨_, rfl, RepI.nil _, hA⟩
  · have g2 : n > 4096 := by omega
    go_enter Try.func12, Try.ntmps12
    go_wp2
    (try simp only [Exit.inBlock, Exit.then])
    refine bodyPost_ret (v := .tuple #[.agg #[.bool false, .slice none 0 0], .int .i64 8]) (by simp [results, go_sem, q1, q2]) rfl ?_
    exact ⟨_, rfl, RepI.nil _, hA⟩

set_option maxRecDepth 20000 in
set_option maxHeartbeats 1000000 in
theorem choose_range (n k : Int) (w : World) (hn : n < 0 ∨ 4096 < n) :
    Calls Try.prog 13 #[.int .i64 n, .int .i64 k] w fun e w' => ∃ r, e = .returned (.tuple #[r, .int .i64 8]) ∧ RepI w' r 0 ∧ Below w.heap.size w w' := by
  have hA : Below w.heap.size w (w.alloc (.cells #[.bool false, .slice none 0 0] 31)) := (Below.refl _ _).alloc (Nat.le_refl _) _
  have k1 := resW w 31 (.bool false) (.slice none 0 0)
  obtain ⟨q1, q2, q3, q4⟩ := k1
  by_cases g : n < 0
  · go_enter Try.func13, Try.ntmps13
    go_wp2
    (try simp only [Exit.inBlock, Exit.then])
    refine bodyPost_ret (v := .tuple #[.agg #[.bool false, .slice none 0 0], .int .i64 8]) (by simp [results, go_sem, q1, q2]) rfl ?_
    exact ⟨_, rfl, RepI.nil _, hA⟩
  · have g2 : n > 4096 := by omega
    go_enter Try.func13, Try.ntmps13
    go_wp2
    (try simp only [Exit.inBlock, Exit.then])
    refine bodyPost_ret (v := .tuple #[.agg #[.bool false, .slice none 0 0], .int .i64 8]) (by simp [results, go_sem, q1, q2]) rfl ?_
    exact ⟨_, rfl, RepI.nil _, hA⟩

set_option maxRecDepth 20000 in
set_option maxHeartbeats 1000000 in
theorem choose_none (n k : Int) (w : World) (h0 : 0 ≤ n) (h1 : n ≤ 4096) (hk : k < 0 ∨ n < k) :
    Calls Try.prog 13 #[.int .i64 n, .int .i64 k] w fun e w' => ∃ r, e = .returned (.tuple #[r, .int .i64 0]) ∧ RepI w' r 0 ∧ Below w.heap.size w w' := by
  have hA : Below w.heap.size w (w.alloc (.cells #[.bool false, .slice none 0 0] 31)) := (Below.refl _ _).alloc (Nat.le_refl _) _
  have k1 := resW w 31 (.bool false) (.slice none 0 0)
  obtain ⟨q1, q2, q3, q4⟩ := k1
  have a1 : ¬ n < 0 := by omega
  have a2 : ¬ n > 4096 := by omega
  by_cases g : k < 0
  · go_enter Try.func13, Try.ntmps13
    go_wp2
    (try simp only [Exit.inBlock, Exit.then])
    refine bodyPost_ret (v := .tuple #[.agg #[.bool false, .slice none 0 0], .int .i64 0]) (by simp [results, go_sem, q1, q2]) rfl ?_
    exact ⟨_, rfl, RepI.nil _, hA⟩
  · have g2 : k > n := by omega
    go_enter Try.func13, Try.ntmps13
    go_wp2
    (try simp only [Exit.inBlock, Exit.then])
    refine bodyPost_ret (v := .tuple #[.agg #[.bool false, .slice none 0 0], .int .i64 0]) (by simp [results, go_sem, q1, q2]) rfl ?_
    exact ⟨_, rfl, RepI.nil _, hA⟩

set_option maxRecDepth 20000 in
set_option maxHeartbeats 2000000 in
theorem choose_any (n k T : Nat) (w : World) (hn : n ≤ 4096) (hk : k ≤ n) (hT : (k ≤ n - k ∧ T = k) ∨ (n - k < k ∧ T = n - k)) :
    Calls Try.prog 13 #[.int .i64 (n : Int), .int .i64 (k : Int)] w fun e w' => ∃ r, e = .returned (.tuple #[r, .int .i64 0]) ∧ RepI w' r (waysN n k : Int) ∧ Below w.heap.size w w' := by
  have g1 : ¬ (n : Int) < 0 := by omega
  have g2 : ¬ (n : Int) > 4096 := by omega
  have g3 : ¬ (k : Int) < 0 := by omega
  have g4 : ¬ (k : Int) > (n : Int) := by omega
  have hmin : min (k : Int) ((n : Int) - (k : Int)) = (T : Int) := by omega
  have HW : Hid (waysN n T = waysN n k) := by
    rcases hT with ⟨_, rfl⟩ | ⟨_, rfl⟩
    · rfl
    · exact ways_flip n k hk
  have hTn : T ≤ n := by omega
  have hA : Below w.heap.size w (w.alloc (.cells #[.bool false, .slice none 0 0] 31)) := (Below.refl _ _).alloc (Nat.le_refl _) _
  have k1 := resW w 31 (.bool false) (.slice none 0 0)
  have HN : Hid (∀ i, nl W32 (waysN n i) ≤ 4097) := fun i => Nat.le_trans (nl_ways n i) (by omega)
  clear hT
  go_enter Try.func13, Try.ntmps13
  go_wp2_with fail
  generalize w.alloc (.cells #[.bool false, .slice none 0 0] 31) = W0 at *
  refine (of_any 1 _ (by omega) (by omega)).mono ?_
  rintro e w3 ⟨o3, rfl, ho3, hb3⟩
  replace ho3 : Rep w3 o3 1 := ho3.nums
  go_wp2
  go_loopw [6, 31] (fun vo vi wr => ∃ i : Nat, i ≤ T ∧ vi = .int .i64 (i : Int) ∧ Rep wr vo (waysN n i) ∧ Below W0.heap.size W0 wr) (fun _ vi _ => (T - intOf vi).toNat)
  case atStart => exact ⟨0, by omega, rfl, by rw [ways_zero]; exact ho3, hb3⟩
  case round =>
    clear ho3 hb3
    obtain ⟨i, hi, rfl, hro, hbel⟩ := hrel
    by_cases hlt : i < T
    · have j1 : (i : Int) < (T : Int) := by omega
      have e0 : (n : Int) - (i : Int) = ((n - i : Nat) : Int) := by omega
      have e1 : IntKind.u64.wrap ((n - i : Nat) : Int) = ((n - i : Nat) : Int) := by rw [IntKind.wrap_u64]; omega
      have e2 : IntKind.u64.wrap ((i : Int) + 1) = ((i + 1 : Nat) : Int) := by rw [IntKind.wrap_u64]; omega
      have hl := HN.out i
      have HD : Hid (waysN n i * (n - i) / (i + 1) = waysN n (i + 1)) := by
        show _ = _
        rw [← ways_step n i]; exact Nat.mul_div_cancel _ (by omega)
      have hnl2 := nl_mul_small (waysN n i) (n - i) 4097 hl (by unfold W32; omega)
      have hDM : Hid (∀ W u v, Rep W u (waysN n i * (n - i)) → Rep W v (i + 1) → Calls Try.prog 32 #[u, v] W fun e w' => ∃ q r, e = .returned (.tuple #[q, r, .int .i64 0]) ∧ RepM W.heap.size w' q (waysN n i * (n - i) / (i + 1)) ∧ RepM W.heap.size w' r (waysN n i * (n - i) % (i + 1)) ∧ Below W.heap.size W w') := fun W u v h1 h2 => by
        have h := divMod_of u v _ _ _ _ W h1 h2 (u64_dg _ _) (u64_dg _ _) (by rw [num_nl]; omega) (by rw [num_nl, num_nl]; exact divide_any _ _ (by omega) (by omega))
        rw [num_nl, num_nl] at h; exact h
      clear hnl2
      go_wp2_with fail
      refine (of_any ((n - i : Nat) : Int) _ (by omega) (by omega)).mono ?_
      rintro e w4 ⟨o4, rfl, ho4, hb4⟩
      rw [Int.toNat_natCast] at ho4
      replace ho4 : Rep w4 o4 (n - i) := ho4.nums
      have hl4 : nl W32 (n - i) ≤ 1 := nl_le W32 _ 1 (by decide) (by unfold W32; omega)
      go_wp2_with fail
      refine (mul_wide _ _ _ _ _ _ _ (Nums.below hro hb4) ho4 (u64_dg _ _) (u64_dg _ _) (by omega)).mono ?_
      rw [num_nl, num_nl]
      rintro e w5 ⟨r5, rfl, hr5, hb5⟩
      have B4 := hbel.trans (hb4.mono hbel.size)
      have B5 := B4.trans (hb5.mono B4.size)
      have hr5' : Rep w5 r5 (waysN n i * (n - i)) := hr5.nums
      clear hro hbel hr5 hb4 hb5 B4 ho4
      go_wp2_with fail
      refine (of_any ((i + 1 : Nat) : Int) _ (by omega) (by omega)).mono ?_
      rintro e w6 ⟨o6, rfl, ho6, hb6⟩
      rw [Int.toNat_natCast] at ho6
      replace ho6 : Rep w6 o6 (i + 1) := ho6.nums
      have B6 := B5.trans (hb6.mono B5.size)
      go_wp2_with fail
      refine (hDM.out _ _ _ (Nums.below hr5' hb6) ho6).mono ?_
      rintro e w7 ⟨q7, r7, rfl, hq7, hr7, hb7⟩
      have B7 := B6.trans (hb7.mono B6.size)
      replace hq7 : Rep w7 q7 (waysN n (i + 1)) := by rw [← HD.out]; exact hq7.rep
      clear hr5' hb6 hb7 B5 B6 ho6 hr7 hDM HD
      go_wp2
      go_roundw
      case rel => exact ⟨i + 1, by omega, by go_num, hq7, B7⟩
      case measure => simp [intOf]; omega
    · have j1 : ¬ (i : Int) < (T : Int) := by omega
      obtain rfl : i = T := by omega
      go_wp2_with fail
      refine (signed_any false _ _ _ hro).mono ?_
      rintro e w2 ⟨r, rfl, hr, hb2⟩
      obtain ⟨b2, ao2, n2, c2, rfl⟩ := hr.open
      have C2 := hbel.trans (hb2.mono hbel.size)
      obtain ⟨q1, q2, q3, q4⟩ := keepW C2 (Nat.le_refl _) k1
      have BF := hA.trans (C2.mono hA.size)
      go_wp2
      (try simp only [Exit.inBlock, Exit.then])
      refine bodyPost_ret (v := .tuple #[.agg #[.bool b2, .slice ao2 n2 c2], .int .i64 0]) (by simp [results, go_sem, q1, q2]) rfl ?_
      rw [zof_false, HW.out] at hr
      exact ⟨_, rfl, hr.store2 q1 q2 _ _, below_store2 BF (by omega) _ _⟩

end Go.Proofs.Ytlegcekklknjhaa

/-
  What the document's own Choose answers: rows of sums.
-/
namespace Go.Proofs.Ytlegcekklknjhaa
open Go.RowKit
set_option linter.unusedVariables false

theorem info_num : (Try.prog.info? 24).map (fun i => (i.zero, i.size, i.bytes)) = some (some (.slice none 0 0), 1, 24) := by kernel_rfl
/-- A row of the call's own of n numbers of the document's. -/
def DRow (B : Nat) (w : World) (g cap n : Nat) (val : Nat → Nat) : Prop :=
  ∃ us, w.ownsRow B 24 1 (.slice (some ⟨g, 0, none⟩) n cap) n us ∧ PureB IsNum w g ∧ ∀ j, j < n → ∃ u, us[j]? = some u ∧ RepD w u (val j)
theorem DRow.lt {B : Nat} {w : World} {g cap n : Nat} {val : Nat → Nat} (h : DRow B w g cap n val) : n ≤ cap ∧ B ≤ g ∧ g < w.heap.size := by
  obtain ⟨us, h1, _⟩ := h; exact owns_cap h1
theorem DRow.below {B : Nat} {w w' : World} {g cap n : Nat} {val : Nat → Nat} (h : DRow B w g cap n val) (hb : Below w.heap.size w w') : DRow B w' g cap n val := by
  have hl := h.lt
  obtain ⟨us, h1, h2, h3⟩ := h
  exact ⟨us, owns_later h1 hb, h2.below hb hl.2.2, fun j hj => let ⟨u, a, b⟩ := h3 j hj; ⟨u, a, Nums.below b hb⟩⟩
theorem DRow.cell {B : Nat} {w : World} {g cap n : Nat} {val : Nat → Nat} (h : DRow B w g cap n val) (j : Nat) (hj : j < n) : ∃ u, w.cell? ⟨g, j, none⟩ = some u ∧ RepD w u (val j) := by
  obtain ⟨us, h1, h2, h3⟩ := h
  obtain ⟨u, a, b⟩ := h3 j hj
  exact ⟨u, owns_cell h1 a, b⟩
/-- Another row was appended to. -/
theorem DRow.other {B : Nat} {w w' : World} {g cap n : Nat} {val : Nat → Nat} {row : Option Nat} (h : DRow B w g cap n val) (hg : w.grownBy w' row) (hk : KeepQ IsNum w w') (hne : some g ≠ row) : DRow B w' g cap n val := by
  have hl := h.lt
  obtain ⟨us, h1, h2, h3⟩ := h
  refine ⟨us, h1.kept hg (.inr hne), fun o v hv => h2 o v ?_, fun j hj => let ⟨u, a, b⟩ := h3 j hj; ⟨u, a, b.keep hk⟩⟩
  rw [← World.cell?_of_block (w := w) (hg.block g hl.2.2 hne)]; exact hv
/-- The row itself was appended to. -/
theorem DRow.more {B : Nat} {w w' : World} {g cap n g' cap' : Nat} {val : Nat → Nat} {us : List Value} {u : Value} (h1 : w'.ownsRow B 24 1 (.slice (some ⟨g', 0, none⟩) (n + 1) cap') (n + 1) (us ++ [u]))
    (h3 : ∀ j, j < n → ∃ u, us[j]? = some u ∧ RepD w u (val j)) (hu : RepD w u (val n)) (hl : us.length = n) (hp : PureB IsNum w' g') (hk : KeepQ IsNum w w') : DRow B w' g' cap' (n + 1) val := by
  refine ⟨_, h1, hp, fun j hj => ?_⟩
  by_cases hjn : j < n
  · obtain ⟨x, a, b⟩ := h3 j hjn
    exact ⟨x, by rw [List.getElem?_append_left (by omega)]; exact a, b.keep hk⟩
  · obtain rfl : j = n := by omega
    exact ⟨u, by rw [List.getElem?_append_right (by omega), hl]; simp, hu.keep hk⟩
theorem DRow.one {B : Nat} {w : World} {u : Value} {m : Nat} {val : Nat → Nat} (hu : RepD w u m) (hm : val 0 = m) (hB : B ≤ w.heap.size) : DRow B (w.alloc (.cells #[u] 24)) w.heap.size 1 1 val := by
  refine ⟨_, owns_new w B 1 _ #[u] hB rfl, ?_, fun j hj => ?_⟩
  · refine pure_of_cells (heap_alloc_new _ _) fun x hx => ?_
    obtain rfl : x = u := by simpa using hx
    obtain ⟨ao, c, rfl, _⟩ := hu
    exact num_slice _ _ _
  · obtain rfl : j = 0 := by omega
    exact ⟨u, rfl, by rw [hm]; exact Nums.below hu ((Below.refl _ _).alloc (Nat.le_refl _) _)⟩
theorem DRow.congr {B : Nat} {w : World} {g cap n : Nat} {val val' : Nat → Nat} (h : DRow B w g cap n val) (e : ∀ j, j < n → val j = val' j) : DRow B w g cap n val' := by
  obtain ⟨us, h1, h2, h3⟩ := h
  exact ⟨us, h1, h2, fun j hj => by rw [← e j hj]; exact h3 j hj⟩

/-- What the next row holds, as far as it is laid. -/
theorem ways_next (i j : Nat) : waysN (i + 1) (j + 1) = waysN i j + waysN i (j + 1) := rfl
theorem nl10_ways (n k : Nat) (hn : n ≤ 1000) : nl 10000 (waysN n k) ≤ 100000 := Nat.le_trans (nl_small _ (n + 1) (Nat.lt_of_lt_of_le (lt_pow_nl W32 _ (by decide)) (Nat.pow_le_pow_right (by decide) (nl_ways n k)))) (by omega)

set_option maxRecDepth 20000 in
set_option maxHeartbeats 2000000 in
theorem rchoose_none (n k : Int) (w : World) (hk : k < 0 ∨ n < k) :
    Calls Try.prog 16 #[.int .i64 n, .int .i64 k] w fun e w' => ∃ r, e = .returned r ∧ RepD w' r 0 ∧ Below w.heap.size w w' := by
  by_cases g : k < 0
  · go_enter Try.func16, Try.ntmps16
    go_wp2
    go_ret
    exact ⟨_, rfl, by unfold RepD; rw [nl_zero]; exact ⟨_, _, rfl, Nat.le_refl _, Nat.zero_le _, fun h => absurd h (by omega)⟩, (Below.refl _ _).alloc (Nat.le_refl _) _⟩
  · have g2 : k > n := by omega
    go_enter Try.func16, Try.ntmps16
    go_wp2
    go_ret
    exact ⟨_, rfl, by unfold RepD; rw [nl_zero]; exact ⟨_, _, rfl, Nat.le_refl _, Nat.zero_le _, fun h => absurd h (by omega)⟩, (Below.refl _ _).alloc (Nat.le_refl _) _⟩

set_option maxRecDepth 20000 in
set_option maxHeartbeats 4000000 in
theorem rchoose_any (n k : Nat) (w : World) (hn : n ≤ 1000) (hk : k ≤ n) :
    Calls Try.prog 16 #[.int .i64 (n : Int), .int .i64 (k : Int)] w fun e w' => ∃ r, e = .returned r ∧ RepD w' r (waysN n k) ∧ Below w.heap.size w w' := by
  have g3 : ¬ (k : Int) < 0 := by omega
  have g4 : ¬ (k : Int) > (n : Int) := by omega
  go_enter Try.func16, Try.ntmps16
  go_wp2_with fail
  refine (small_any 1 _ (by omega)).mono ?_
  rintro e w1 ⟨u1, rfl, hu1, hb1⟩
  obtain ⟨a1, c1, rfl, hl1⟩ : ∃ a c, u1 = .slice a (nl 10000 1) c ∧ True := by obtain ⟨a, c, h, _⟩ := hu1; exact ⟨a, c, h, trivial⟩
  have hD := DRow.one (B := w.heap.size) (val := waysN 0) hu1 (ways_zero 0) hb1.size
  have hB := hb1.alloc hb1.size (.cells #[.slice a1 (nl 10000 1) c1] 24)
  generalize nl 10000 1 = n1 at *
  go_wp2
  go_loopw [5, 6] (fun vr vi wr => ∃ (i g cap : Nat), i ≤ n ∧ vi = .int .i64 (i : Int) ∧ vr = .slice (some ⟨g, 0, none⟩) (i + 1) cap ∧ DRow w.heap.size wr g cap (i + 1) (waysN i) ∧ Below w.heap.size w wr) (fun _ vi _ => (n - intOf vi).toNat)
  case atStart => exact ⟨0, _, _, by omega, rfl, rfl, hD, hB⟩
  case round =>
    clear hD hB hu1 hb1
    obtain ⟨i, g, cap, hi, rfl, rfl, hD, hB⟩ := hrel
    by_cases hlt : i < n
    · have j1 : (i : Int) < (n : Int) := by omega
      go_wp2_with fail
      refine (small_any 1 _ (by omega)).mono ?_
      rintro e w2 ⟨u2, rfl, hu2, hb2⟩
      obtain ⟨a2, c2, rfl, hl2⟩ : ∃ a c, u2 = .slice a (nl 10000 1) c ∧ True := by obtain ⟨a, c, h, _⟩ := hu2; exact ⟨a, c, h, trivial⟩
      obtain ⟨Bs, hBs⟩ : ∃ B, B = wr.heap.size := ⟨_, rfl⟩
      have hE := DRow.one (B := Bs) (val := waysN (i + 1)) hu2 (ways_zero _) (by rw [hBs]; exact hb2.size)
      have hb3 : Below wr.heap.size wr (w2.alloc (.cells #[.slice a2 (nl 10000 1) c2] 24)) := hb2.alloc hb2.size _
      have hD3 := hD.below hb3
      have hB3 := hB.trans (hb3.mono hB.size)
      have hwB : w.heap.size ≤ Bs := by rw [hBs]; exact hB.size
      have hgl : g < Bs := by rw [hBs]; exact hD.lt.2.2
      clear hu2 hb2 hD hb3 hBs
      generalize nl 10000 1 = n2 at *
      go_wp2
      go_loopw [7, 8] (fun vn vj ws => ∃ (j g' cap' : Nat), j ≤ i ∧ vj = .int .i64 ((j : Int) + 1) ∧ vn = .slice (some ⟨g', 0, none⟩) (j + 1) cap' ∧ DRow w.heap.size ws g cap (i + 1) (waysN i) ∧ DRow Bs ws g' cap' (j + 1) (waysN (i + 1)) ∧ Below w.heap.size w ws) (fun _ vj _ => (i + 1 - intOf vj).toNat)
      case atStart => exact ⟨0, _, _, by omega, rfl, rfl, hD3, hE, hB3⟩
      case round =>
        clear hD3 hE hB3
        obtain ⟨j, g', cap', hj, rfl, rfl, hD, hE, hB'⟩ := hrel
        by_cases hjl : j < i
        · have j2 : (j : Int) + 1 < (i : Int) + 1 := by omega
          obtain ⟨x1, q1, R1⟩ := hD.cell j (by omega)
          obtain ⟨x2, q2, R2⟩ := hD.cell (j + 1) (by omega)
          have n1 := nl10_ways i j (by omega)
          have n2 := nl10_ways i (j + 1) (by omega)
          have lD := hD.lt
          have lE := hE.lt
          have i0 : (0 : Int) ≤ (j : Int) := by omega
          have i1 : (j : Int) < (i : Int) + 1 := by omega
          have i2 : (0 : Int) ≤ (j : Int) + 1 := by omega
          obtain ⟨X, hX⟩ : ∃ X : Int, X = (j : Int) + 1 := ⟨_, rfl⟩
          obtain ⟨Y, hY⟩ : ∃ Y : Int, Y = (j : Int) := ⟨_, rfl⟩
          have w1 : IntKind.i64.wrap (X - 1) = Y := by rw [IntKind.wrap_i64]; omega
          have y1 : (0 : Int) ≤ Y := by omega
          have y2 : Y < (i : Int) + 1 := by omega
          have y3 : Y.toNat = j := by omega
          have x1' : (0 : Int) ≤ X := by omega
          have x2' : X < (i : Int) + 1 := by omega
          have x3' : X.toNat = j + 1 := by omega
          rw [← hX] at j2 ⊢
          have HX : Hid (X = (j : Int) + 1) := hX
          clear hX hY i0 i1 i2
          obtain ⟨us, ho, hp, hu⟩ := hE
          have hul : us.length = j + 1 := by have := ho.1; omega
          have gne : g ≠ g' := by omega
          have S0 : wr.drew.cell? ⟨g, j, none⟩ = some x1 ∧ wr.drew.cell? ⟨g, j + 1, none⟩ = some x2 := ⟨q1, q2⟩
          have hwn : waysN (i + 1) (j + 1) = waysN i j + waysN i (j + 1) := ways_next i j
          have HU : Hid (∀ j', j' < j + 1 → ∃ u, us[j']? = some u ∧ RepD wr u (waysN (i + 1) j')) := hu
          have HWN : Hid (waysN (i + 1) (j + 1) = waysN i j + waysN i (j + 1)) := hwn
          clear hu hwn
          go_wp2
          go_region_held3 (fun w' => w'.cell? ⟨g, j, none⟩ = some x1 ∧ w'.cell? ⟨g, j + 1, none⟩ = some x2) (first | exact S0 | exact keep2 (by assumption) (by exact Nat.le_refl _) (by assumption) | exact keep2 ((Below.refl _ _).alloc (Nat.le_refl _) _) (Nat.le_refl _) (by assumption) | exact ⟨(hg5.cell (by assumption : _ ∧ _).1 (by simp [Value.ownBlock]; omega)), (hg5.cell (by assumption : _ ∧ _).2 (by simp [Value.ownBlock]; omega))⟩) (first
            | (go_at_call 17; refine (plus_any _ _ _ _ _ (Nums.below R1 (Below.refl _ _).drew) (Nums.below R2 (Below.refl _ _).drew) (by omega) (by omega)).mono ?_; rintro e w4 ⟨r4, rfl, hr4, hb4⟩; obtain ⟨a4, c4, rfl, hl4⟩ : ∃ a c, r4 = .slice a (nl 10000 (waysN i j + waysN i (j + 1))) c ∧ True := (by obtain ⟨a, c, h, _⟩ := hr4; exact ⟨a, c, h, trivial⟩))
            | (refine step_append_pure (Q' := IsNum) (by rfl) _ _ _ (by rfl) Bs 24 (.slice none 0 0) 1 24 Try.underlying64 info_num (by rfl) (by omega) (.slice (some ⟨g', 0, none⟩) (j + 1) cap') (by rfl) (j + 1) us ((owns_later (owns_later ho (Below.refl _ _).drew) hb4).alloc _) (fun g0 hg0 => by simp only [Value.ownBlock, Option.some.injEq] at hg0; subst hg0; exact hp.below (((Below.refl _ _).drew.trans hb4).alloc hb4.size _) lE.2.2) ⟨w4.heap.size, 0, none⟩ 1 (by rfl) [.slice a4 (nl 10000 (waysN i j + waysN i (j + 1))) c4] rfl (news_block (heap_alloc_new _ _)) (by simp [Value.oneCell']) (by simp [num_slice]) (by simp [Value.cells, num_slice]) (by omega) (by omega) (by have := hb4.size; simp at this ⊢; omega) ?_; intro g5 cap5 w5 ho5 hg5 hat5 hp5 hk5)
            | fail)
          have b4 : Below wr.heap.size wr (w4.alloc (.cells #[.slice a4 (nl 10000 (waysN i j + waysN i (j + 1))) c4] 24)) := ((Below.refl _ _).drew.trans hb4).alloc hb4.size _
          have D5 := (hD.below b4).other hg5 hk5 (by simp [Value.ownBlock]; omega)
          have E5 : DRow Bs w5 g5 cap5 (j + 1 + 1) (waysN (i + 1)) := DRow.more (g := g') (cap := cap') ho5 (fun j' hj' => let ⟨u, h1, h2⟩ := HU.out j' hj'; ⟨u, h1, Nums.below h2 b4⟩) (by rw [HWN.out]; exact Nums.below hr4 ((Below.refl _ _).alloc (Nat.le_refl _) _)) hul hp5 hk5
          have B5 : Below w.heap.size w w5 := below_grownB (hB'.trans (b4.mono hB'.size)) hg5 (by have := (hB'.trans (b4.mono hB'.size)).size; omega) (fun g0 hg0 => by simp only [Value.ownBlock, Option.some.injEq] at hg0; omega)
          clear hD hB' ho hp HU hr4 hb4 hg5 hk5 ho5 hp5 b4 S0
          have eX : X = ((j + 1 : Nat) : Int) := HX.out
          clear HX w1 y1 y2 y3 x1' x2' x3' j2
          subst eX
          go_wp2
          go_roundw
          case rel => exact ⟨j + 1, g5, cap5, by omega, by go_num, rfl, D5, E5, B5⟩
          case measure => simp [intOf]; omega
        · have j2 : ¬ (j : Int) + 1 < (i : Int) + 1 := by omega
          obtain rfl : j = i := by omega
          obtain ⟨us, ho, hp, hu⟩ := hE
          have hul : us.length = j + 1 := by have := ho.1; omega
          have lE := owns_cap ho
          go_wp2_with fail
          refine (small_any 1 _ (by omega)).mono ?_
          rintro e w4 ⟨r4, rfl, hr4, hb4⟩
          obtain ⟨a4, c4, rfl, hl4⟩ : ∃ a c, r4 = .slice a (nl 10000 1) c ∧ True := by obtain ⟨a, c, h, _⟩ := hr4; exact ⟨a, c, h, trivial⟩
          have HU : Hid (∀ j', j' < j + 1 → ∃ u, us[j']? = some u ∧ RepD wr u (waysN (j + 1) j')) := hu
          clear hu
          go_wp2_with (at_builtin; refine wpList_append_pure (Q' := IsNum) rfl _ _ _ rfl Bs 24 (.slice none 0 0) 1 24 Try.underlying64 info_num rfl (by omega) (.slice (some ⟨g', 0, none⟩) (j + 1) cap') rfl (j + 1) us ((owns_later ho hb4).alloc _) (fun g0 hg0 => by simp only [Value.ownBlock, Option.some.injEq] at hg0; subst hg0; exact hp.below (hb4.alloc hb4.size _) lE.2.2) ⟨w4.heap.size, 0, none⟩ 1 rfl [.slice a4 (nl 10000 1) c4] rfl (news_block (heap_alloc_new _ _)) (by simp [Value.oneCell']) (by simp [num_slice]) (by simp [Value.cells, num_slice]) (by omega) (by omega) (by have := hb4.size; simp at this ⊢; omega) ?_)
          intro g5 cap5 w5 ho5 hg5 hat5 hp5 hk5
          have b4 : Below wr.heap.size wr (w4.alloc (.cells #[.slice a4 (nl 10000 1) c4] 24)) := hb4.alloc hb4.size _
          have E5 : DRow Bs w5 g5 cap5 (j + 1 + 1) (waysN (j + 1)) := DRow.more (g := g') (cap := cap') ho5 (fun j' hj' => let ⟨u, h1, h2⟩ := HU.out j' hj'; ⟨u, h1, Nums.below h2 b4⟩) (by rw [ways_all]; exact Nums.below hr4 ((Below.refl _ _).alloc (Nat.le_refl _) _)) hul hp5 hk5
          have B5 : Below w.heap.size w w5 := below_grownB (hB'.trans (b4.mono hB'.size)) hg5 (by have := (hB'.trans (b4.mono hB'.size)).size; omega) (fun g0 hg0 => by simp only [Value.ownBlock, Option.some.injEq] at hg0; omega)
          have E6 : DRow w.heap.size w5 g5 cap5 (j + 1 + 1) (waysN (j + 1)) := by
            obtain ⟨us, h1, h2, h3⟩ := E5
            refine ⟨us, ⟨h1.1, ?_⟩, h2, h3⟩
            rcases h1.2 with hn | ⟨g0, cap0, cur, e0, hb0, rest⟩
            · exact .inl hn
            · exact .inr ⟨g0, cap0, cur, e0, by omega, rest⟩
          clear hD hB' ho hp HU hr4 hb4 hg5 hk5 ho5 hp5 b4 E5
          go_wp2
          go_roundw
          case rel => exact ⟨j + 1, g5, cap5, by omega, by go_num, rfl, E6, B5⟩
          case measure => simp [intOf]; omega
    · have j1 : ¬ (i : Int) < (n : Int) := by omega
      obtain rfl : i = n := by omega
      obtain ⟨x1, q1, R1⟩ := hD.cell k (by omega)
      have i0 : (0 : Int) ≤ (k : Int) := by omega
      have i1 : (k : Int) < (i : Int) + 1 := by omega
      go_wp2
      go_ret
      exact ⟨_, rfl, R1, hB⟩

end Go.Proofs.Ytlegcekklknjhaa

/-
  Variables that hold structs of two or three cells; numbers stay when such a variable is set.
-/
namespace Go.Proofs.Ytlegcekklknjhaa
open Go.RowKit
set_option linter.unusedVariables false

/-- A variable for a struct of two cells that may be written, and what it holds. -/
def V2 (w : World) (R : Nat) (x y : Value) : Prop := w.cell? ⟨R, 0, none⟩ = some x ∧ w.cell? ⟨R, 1, none⟩ = some y ∧ w.frozen? ⟨R, 0, none⟩ = false ∧ w.frozen? ⟨R, 1, none⟩ = false
theorem V2.later {w w' : World} {R : Nat} {x y : Value} (h : V2 w R x y) (hb : Below w.heap.size w w') : V2 w' R x y := keepW hb (Nat.le_refl _) h
theorem V2.same {w : World} {R : Nat} {x y : Value} (h : V2 w R x y) (x' y' : Value) : V2 ((w.setCell ⟨R, 0, none⟩ x').setCell ⟨R, 1, none⟩ y') R x' y' := put2_same h
theorem V2.other {w : World} {R R' : Nat} {x y : Value} (h : V2 w R' x y) (hne : R' ≠ R) (x' y' : Value) : V2 ((w.setCell ⟨R, 0, none⟩ x').setCell ⟨R, 1, none⟩ y') R' x y := put2_other hne h
theorem V2.lay (w : World) (t : TypeId) (x y : Value) : ∃ W, W = w.alloc (.cells #[x, y] t) ∧ W.heap.size = w.heap.size + 1 ∧ Below w.heap.size w W ∧ V2 W w.heap.size x y :=
  ⟨_, rfl, by simp, (Below.refl _ _).alloc (Nat.le_refl _) _, resW w t x y⟩

theorem V2.below {w w' : World} {R : Nat} {x y : Value} (h : V2 w R x y) (hb : Below w.heap.size w w') : V2 w' R x y := h.later hb
theorem V2.lt {w : World} {R : Nat} {x y : Value} (h : V2 w R x y) : R < w.heap.size := World.block_lt_of_cell? _ _ h.1
theorem keep_set {w : World} {a : Addr} {old : Value} (h : w.cell? a = some old) (hn : ¬ IsNum old) (x : Value) : KeepQ IsNum w (w.setCell a x) := by
  intro b o v hv hc
  rw [World.cell?_setCell_other _ _ _ _ (fun e => by rw [← e, h] at hc; cases hc; exact hn hv)]
  exact hc
/-- What stands in a variable of bools, slices and the like. -/
theorem V2.keep {w : World} {R : Nat} {x y : Value} (h : V2 w R x y) (hx : ¬ IsNum x) (hy : ¬ IsNum y) (x' y' : Value) : KeepQ IsNum w ((w.setCell ⟨R, 0, none⟩ x').setCell ⟨R, 1, none⟩ y') := by
  refine (keep_set h.1 hx x').trans (keep_set (old := y) ?_ hy y')
  rw [World.cell?_setCell_other _ _ _ _ (fun e => by injection e; omega)]; exact h.2.1
theorem V2.keepJ {w : World} {R : Nat} {p : Bool} {ao : Option Addr} {n c : Nat} (h : V2 w R (.bool p) (.slice ao n c)) (x' y' : Value) : KeepQ IsNum w ((w.setCell ⟨R, 0, none⟩ x').setCell ⟨R, 1, none⟩ y') :=
  h.keep (num_bool _) (num_slice _ _ _) x' y'
theorem RepI.keep {w w' : World} {v : Value} {z : Int} (h : RepI w v z) (hk : KeepQ IsNum w w') : RepI w' v z := by
  obtain ⟨ao, c, h1, h2⟩ := h
  exact ⟨ao, c, h1, Nums.keep h2 hk⟩
theorem RepJ.keep {w w' : World} {v : Value} {z : Int} (h : RepJ w v z) (hk : KeepQ IsNum w w') : RepJ w' v z := by
  obtain ⟨ao, c, h1, h2⟩ := h
  exact ⟨ao, c, h1, Nums.keep h2 hk⟩
theorem IntAt.keep {w w' : World} {v : Value} {z : Int} {L : Nat} (h : IntAt w v z L) (hk : KeepQ IsNum w w') : IntAt w' v z L := by
  obtain ⟨neg, ao, n, c, f, h1, h2, h3⟩ := h
  exact ⟨neg, ao, n, c, f, h1, Nums.keep h2 hk, h3⟩
theorem Raw.keep {w w' : World} {v : Value} {n : Nat} {f : Nat → Int} (h : Raw w v n f) (hk : KeepQ IsNum w w') : Raw w' v n f := by
  obtain ⟨ao, c, h1, h2, h3, h4, h5, h6⟩ := h
  exact ⟨ao, c, h1, h2, h3, h4, h5, fun hn => let ⟨b, off, e, hc⟩ := h6 hn; ⟨b, off, e, fun i hi => hk _ _ _ ⟨_, _, rfl⟩ (hc i hi)⟩⟩

end Go.Proofs.Ytlegcekklknjhaa

/-
  A whole number that comes in, as an argument: a sign and limbs of whatever length.
-/
namespace Go.Proofs.Ytlegcekklknjhaa
open Go.ChangeShapes Go.WideShapes Go.ChangeAt Go.RowKit

theorem cells_wint : Try.prog.cellsOf 31 = 2 := by kernel_rfl
theorem cells_bool : Try.prog.cellsOf 4 = 1 := by kernel_rfl
theorem cells_nat : Try.prog.cellsOf 29 = 1 := by kernel_rfl
theorem cells_u64 : Try.prog.cellsOf 59 = 1 := by kernel_rfl
theorem agg2 {cs : Array Value} (h : cs.size = 2) : ∃ a b, cs = #[a, b] := by
  obtain ⟨l⟩ := cs
  match l, h with
  | [a, b], _ => exact ⟨a, b, rfl⟩

/-- Limbs, as they are read. -/
theorem open_nat {H : Type} {enc : TypeId × Value → H} {W : World} {base : Nat} {fuel : Nat} {cs : List Value} {x : DataW H × List MemPlace}
    (h : DataW.trod enc Try.prog W base (fun _ => true) true fuel 29 cs = some x) : ∃ ao n c f, cs = [.slice ao n c] ∧ Raw W (.slice ao n c) n f := by
  rcases open_ints Try.underlying29 Try.underlying59 cells_u64 h with ⟨hcs, _⟩ | ⟨x, l, c, zs, hcs, _, hl, hm, hz, _, hcell, hwz⟩
  · exact ⟨_, _, _, _, hcs, raw_nil W⟩
  · exact ⟨_, _, _, _, hcs, raw_row W x _ _ zs hl hm (by simpa using hz) hcell hwz⟩
set_option maxRecDepth 100000 in
theorem open_wint {H : Type} {enc : TypeId × Value → H} {W : World} {base b0 : Nat} {r : Reach} {v : Value} {d : DataW H} {ps : List MemPlace}
    (hval : Value.okWide Try.prog W r b0 31 v) (h : DataW.Trod enc Try.prog W base (fun _ => true) true 31 v d ps) :
    ∃ neg ao n c f, v = .agg #[.bool neg, .slice ao n c] ∧ Raw W (.slice ao n c) n f := by
  obtain ⟨cs, rfl, hsz⟩ := okWide_struct Try.underlying31 hval
  rw [cells_wint] at hsz
  obtain ⟨c0, c1, rfl⟩ := agg2 hsz
  obtain ⟨fuel, hf⟩ := h
  obtain ⟨y0, y1, m, hx, _, hy0, hy1⟩ := trod_struct2 Try.underlying31 hf
  obtain ⟨b, e0, _⟩ := DataW.trod_bool Try.underlying4 hy0
  obtain ⟨ao, n, c, f, e1, hraw⟩ := open_nat hy1
  simp [Value.cells, cells_bool, cells_nat] at e0 e1
  subst e0 e1
  exact ⟨b, ao, n, c, f, rfl, hraw⟩

end Go.Proofs.Ytlegcekklknjhaa
