/-
  What whole.less, Add, Sub and Mul answer.
-/
import Derived.Test.YthhabammejkjcaaDoorWhole1
import Derived.Test.YthhabammejkjcaaDoorSub
import Derived.Test.YthhabammejkjcaaDoorProduct
namespace Go.Proofs.YthhabammejkjcaaDoor
open Go.RowKit

set_option maxRecDepth 20000 in
set_option maxHeartbeats 400000 in
theorem less_any (u v : Value) (n m : Nat) (f g : Nat → Int) (w : World) (hu : Nums .u64 w u n f) (hv : Nums .u64 w v m g) (hf : U64 n f) (hg : U64 m g) (h : num g m ≤ num f n) :
    Calls Tryd.prog 75 #[u, v] w fun e w' => ∃ r, e = .returned r ∧ RepM w.heap.size w' r (num f n - num g m) ∧ Below w.heap.size w w' := by
  go_enter Tryd.func75, Tryd.ntmps75
  go_wp2_with fail
  refine (sub_ok _ _ _ _ _ _ _ hu hv hf hg h).mono ?_
  rintro e w1 ⟨r, rfl, hr, hb⟩
  go_wp2
  go_ret
  exact ⟨_, rfl, hr, hb⟩

/-- The two cells of a whole number that came in, laid in a variable. -/
theorem box_a (w : World) (t t' t'' : TypeId) (p q p' q' x y : Value) :
    (((w.alloc (.cells #[p, q] t)).alloc (.cells #[p', q'] t')).alloc (.cells #[x, y] t'')).cell? ⟨w.heap.size, 0, none⟩ = some p ∧
    (((w.alloc (.cells #[p, q] t)).alloc (.cells #[p', q'] t')).alloc (.cells #[x, y] t'')).cell? ⟨w.heap.size, 1, none⟩ = some q ∧
    (((w.alloc (.cells #[p, q] t)).alloc (.cells #[p', q'] t')).alloc (.cells #[x, y] t'')).cell? ⟨w.heap.size + 1, 0, none⟩ = some p' ∧
    (((w.alloc (.cells #[p, q] t)).alloc (.cells #[p', q'] t')).alloc (.cells #[x, y] t'')).cell? ⟨w.heap.size + 1, 1, none⟩ = some q' := by
  have h0 := resW w t p q
  have h1 := res1 w (.cells #[p, q] t) t' p' q'
  have b1 : Below (w.heap.size + 1) (w.alloc (.cells #[p, q] t)) (((w.alloc (.cells #[p, q] t)).alloc (.cells #[p', q'] t')).alloc (.cells #[x, y] t'')) :=
    ((Below.refl _ _).alloc (by simp) _).alloc (by simp) _
  have b2 : Below (w.heap.size + 1 + 1) ((w.alloc (.cells #[p, q] t)).alloc (.cells #[p', q'] t')) (((w.alloc (.cells #[p, q] t)).alloc (.cells #[p', q'] t')).alloc (.cells #[x, y] t'')) :=
    (Below.refl _ _).alloc (by simp) _
  have k0 := keep2 b1 (by simp) ⟨h0.1, h0.2.1⟩
  have k1 := keep2 b2 (by simp) ⟨h1.1, h1.2.1⟩
  exact ⟨k0.1, k0.2, k1.1, k1.2⟩

set_option maxRecDepth 20000 in
set_option maxHeartbeats 2000000 in
theorem wadd_same (p : Bool) (ao : Option Addr) (n c : Nat) (f : Nat → Int) (bo : Option Addr) (m d : Nat) (g : Nat → Int) (w : World)
    (hu : Nums .u64 w (.slice ao n c) n f) (hf : U64 n f) (hv : Nums .u64 w (.slice bo m d) m g) (hg : U64 m g) (hn : n ≤ 1000000) (hm : m ≤ 1000000) :
    Calls Tryd.prog 76 #[.agg #[.bool p, .slice ao n c], .agg #[.bool p, .slice bo m d]] w fun e w' => ∃ r, e = .returned r ∧ RepI w' r (zof p (num f n + num g m)) ∧ Below w.heap.size w w' := by
  have hA : ∀ o o' o'', Below w.heap.size w (((w.alloc o).alloc o').alloc o'') := fun o o' o'' => (((Below.refl _ _).alloc (Nat.le_refl _) _).alloc (by simp) _).alloc (by simp; omega) _
  have ne1 : ¬ w.heap.size = w.heap.size + 1 + 1 := by omega
  have ne2 : ¬ w.heap.size + 1 + 1 = w.heap.size := by omega
  obtain ⟨c1, c2, c3, c4⟩ := box_a w 36 36 36 (.bool p) (.slice ao n c) (.bool p) (.slice bo m d) (.bool false) (.slice none 0 0)
  go_enter Tryd.func76, Tryd.ntmps76
  go_wp2
  go_region_held3 (fun w' => w'.cell? ⟨w.heap.size, 0, none⟩ = some (.bool p) ∧ w'.cell? ⟨w.heap.size, 1, none⟩ = some (.slice ao n c) ∧ w'.cell? ⟨w.heap.size + 1, 0, none⟩ = some (.bool p) ∧ w'.cell? ⟨w.heap.size + 1, 1, none⟩ = some (.slice bo m d)) (first | exact keep4 (by assumption) (by simp) (by assumption) | go_keep) (first
    | (go_at_call 74; refine (add_any _ _ _ _ _ _ _ (hu.below (hA _ _ _).drew) (hv.below (hA _ _ _).drew) hf hg hn hm).mono ?_; rintro e w1 ⟨s, rfl, hs, hb1⟩; have hk1 := keepW hb1 (by simp) (res2 w _ _ _ _ _))
    | (go_at_call 50; refine (signed_any _ _ _ _ hs.nums).mono ?_; rintro e w2 ⟨r, rfl, hr, hb2⟩; obtain ⟨b2, ao2, n2, c2, rfl⟩ := hr.open; obtain ⟨q1, q2, q3, q4⟩ := keepW hb2 (Nat.le_refl _) hk1))
  go_wp2
  (try simp only [Exit.inBlock, Exit.then])
  refine bodyPost_ret (v := .agg #[.bool b2, .slice ao2 n2 c2]) (by simp [results, go_sem, q1, q2]) rfl ?_
  have B1 := (hA _ _ _).drew.trans (hb1.mono (by simp; omega))
  have B2 := B1.trans (hb2.mono B1.size)
  exact ⟨_, rfl, hr.store2 q1 q2 _ _, below_store2 B2 (by omega) _ _⟩

set_option maxRecDepth 20000 in
set_option maxHeartbeats 2000000 in
theorem wadd_lt (p : Bool) (ao : Option Addr) (n c : Nat) (f : Nat → Int) (bo : Option Addr) (m d : Nat) (g : Nat → Int) (w : World)
    (hu : Nums .u64 w (.slice ao n c) n f) (hf : U64 n f) (hv : Nums .u64 w (.slice bo m d) m g) (hg : U64 m g) (hc0 : num f n < num g m) :
    Calls Tryd.prog 76 #[.agg #[.bool p, .slice ao n c], .agg #[.bool (!p), .slice bo m d]] w fun e w' => ∃ r, e = .returned r ∧ RepI w' r (zof (!p) (num g m - num f n)) ∧ Below w.heap.size w w' := by
  have hA : ∀ o o' o'', Below w.heap.size w (((w.alloc o).alloc o').alloc o'') := fun o o' o'' => (((Below.refl _ _).alloc (Nat.le_refl _) _).alloc (by simp) _).alloc (by simp; omega) _
  have ne1 : ¬ w.heap.size = w.heap.size + 1 + 1 := by omega
  have ne2 : ¬ w.heap.size + 1 + 1 = w.heap.size := by omega
  obtain ⟨c1, c2, c3, c4⟩ := box_a w 36 36 36 (.bool p) (.slice ao n c) (.bool (!p)) (.slice bo m d) (.bool false) (.slice none 0 0)
  have hpq : (p == !p) = false := by cases p <;> rfl
  have hc : cmpI (num f n) (num g m) < 0 := by rw [cmpI_lt (by omega)]; omega
  generalize hq : (!p) = q at *
  go_enter Tryd.func76, Tryd.ntmps76
  go_wp2_with fail
  refine (cmp_any _ _ _ _ _ _ _ (hu.below (hA _ _ _)) (hv.below (hA _ _ _)) hf hg).mono ?_
  rintro e w0 ⟨rfl, hb0⟩
  have hk0 := keepW hb0 (by simp) (res2 w _ _ _ _ _)
  obtain ⟨d1, d2, d3, d4⟩ := keep4 hb0 (by simp) ⟨c1, c2, c3, c4⟩
  have B0 : Below w.heap.size w w0 := (hA _ _ _).trans (hb0.mono (by simp; omega))
  clear c1 c2 c3 c4 hq
  generalize cmpI (num f n) (num g m) = C at *
  go_wp2
  go_region_held3 (fun w' => w'.cell? ⟨w.heap.size, 0, none⟩ = some (.bool p) ∧ w'.cell? ⟨w.heap.size, 1, none⟩ = some (.slice ao n c) ∧ w'.cell? ⟨w.heap.size + 1, 0, none⟩ = some (.bool q) ∧ w'.cell? ⟨w.heap.size + 1, 1, none⟩ = some (.slice bo m d)) (first | exact keep4 (by assumption) (by simp) (by assumption) | go_keep) (first
    | (go_at_call 75; refine (less_any _ _ _ _ _ _ _ (hv.below B0.drew) (hu.below B0.drew) hg hf (by omega)).mono ?_; rintro e w1 ⟨s, rfl, hs, hb1⟩; have hk1 := keepW hb1 (Nat.le_refl _) hk0)
    | (go_at_call 50; refine (signed_any _ _ _ _ hs.nums).mono ?_; rintro e w2 ⟨r, rfl, hr, hb2⟩; obtain ⟨b2, ao2, n2, c2, rfl⟩ := hr.open; obtain ⟨q1, q2, q3, q4⟩ := keepW hb2 (Nat.le_refl _) hk1))
  go_wp2
  (try simp only [Exit.inBlock, Exit.then])
  refine bodyPost_ret (v := .agg #[.bool b2, .slice ao2 n2 c2]) (by simp [results, go_sem, q1, q2]) rfl ?_
  have B1 := B0.drew.trans (hb1.mono B0.size)
  have B2 := B1.trans (hb2.mono B1.size)
  exact ⟨_, rfl, hr.store2 q1 q2 _ _, below_store2 B2 (by omega) _ _⟩

set_option maxRecDepth 20000 in
set_option maxHeartbeats 2000000 in
theorem wadd_ge (p : Bool) (ao : Option Addr) (n c : Nat) (f : Nat → Int) (bo : Option Addr) (m d : Nat) (g : Nat → Int) (w : World)
    (hu : Nums .u64 w (.slice ao n c) n f) (hf : U64 n f) (hv : Nums .u64 w (.slice bo m d) m g) (hg : U64 m g) (hc0 : num g m ≤ num f n) :
    Calls Tryd.prog 76 #[.agg #[.bool p, .slice ao n c], .agg #[.bool (!p), .slice bo m d]] w fun e w' => ∃ r, e = .returned r ∧ RepI w' r (zof p (num f n - num g m)) ∧ Below w.heap.size w w' := by
  have hA : ∀ o o' o'', Below w.heap.size w (((w.alloc o).alloc o').alloc o'') := fun o o' o'' => (((Below.refl _ _).alloc (Nat.le_refl _) _).alloc (by simp) _).alloc (by simp; omega) _
  have ne1 : ¬ w.heap.size = w.heap.size + 1 + 1 := by omega
  have ne2 : ¬ w.heap.size + 1 + 1 = w.heap.size := by omega
  obtain ⟨c1, c2, c3, c4⟩ := box_a w 36 36 36 (.bool p) (.slice ao n c) (.bool (!p)) (.slice bo m d) (.bool false) (.slice none 0 0)
  have hpq : (p == !p) = false := by cases p <;> rfl
  have hc : ¬ cmpI (num f n) (num g m) < 0 := by unfold cmpI; rw [if_neg (by omega)]; split <;> omega
  generalize hq : (!p) = q at *
  go_enter Tryd.func76, Tryd.ntmps76
  go_wp2_with fail
  refine (cmp_any _ _ _ _ _ _ _ (hu.below (hA _ _ _)) (hv.below (hA _ _ _)) hf hg).mono ?_
  rintro e w0 ⟨rfl, hb0⟩
  have hk0 := keepW hb0 (by simp) (res2 w _ _ _ _ _)
  obtain ⟨d1, d2, d3, d4⟩ := keep4 hb0 (by simp) ⟨c1, c2, c3, c4⟩
  have B0 : Below w.heap.size w w0 := (hA _ _ _).trans (hb0.mono (by simp; omega))
  clear c1 c2 c3 c4 hq
  generalize cmpI (num f n) (num g m) = C at *
  go_wp2
  go_region_held3 (fun w' => w'.cell? ⟨w.heap.size, 0, none⟩ = some (.bool p) ∧ w'.cell? ⟨w.heap.size, 1, none⟩ = some (.slice ao n c) ∧ w'.cell? ⟨w.heap.size + 1, 0, none⟩ = some (.bool q) ∧ w'.cell? ⟨w.heap.size + 1, 1, none⟩ = some (.slice bo m d)) (first | exact keep4 (by assumption) (by simp) (by assumption) | go_keep) (first
    | (go_at_call 75; refine (less_any _ _ _ _ _ _ _ (hu.below B0.drew) (hv.below B0.drew) hf hg (by omega)).mono ?_; rintro e w1 ⟨s, rfl, hs, hb1⟩; have hk1 := keepW hb1 (Nat.le_refl _) hk0)
    | (go_at_call 50; refine (signed_any _ _ _ _ hs.nums).mono ?_; rintro e w2 ⟨r, rfl, hr, hb2⟩; obtain ⟨b2, ao2, n2, c2, rfl⟩ := hr.open; obtain ⟨q1, q2, q3, q4⟩ := keepW hb2 (Nat.le_refl _) hk1))
  go_wp2
  (try simp only [Exit.inBlock, Exit.then])
  refine bodyPost_ret (v := .agg #[.bool b2, .slice ao2 n2 c2]) (by simp [results, go_sem, q1, q2]) rfl ?_
  have B1 := B0.drew.trans (hb1.mono B0.size)
  have B2 := B1.trans (hb2.mono B1.size)
  exact ⟨_, rfl, hr.store2 q1 q2 _ _, below_store2 B2 (by omega) _ _⟩

theorem zof_add (p : Bool) (x y : Nat) : zof p (x + y) = zof p x + zof p y := by cases p <;> simp [zof] <;> omega
theorem zof_less (p : Bool) (x y : Nat) (h : y ≤ x) : zof p (x - y) = zof p x + zof (!p) y := by cases p <;> simp [zof] <;> omega

theorem wadd_any (u v : Value) (x y : Int) (L M : Nat) (w : World) (hu : IntAt w u x L) (hv : IntAt w v y M) (hL : L ≤ 1000000) (hM : M ≤ 1000000) :
    Calls Tryd.prog 76 #[u, v] w fun e w' => ∃ r, e = .returned r ∧ RepI w' r (x + y) ∧ Below w.heap.size w w' := by
  obtain ⟨p, ao, n, c, f, rfl, hu, hf, rfl, hn⟩ := hu
  obtain ⟨q, bo, m, d, g, rfl, hv, hg, rfl, hm⟩ := hv
  by_cases hpq : p = q
  · subst hpq
    rw [← zof_add]
    exact wadd_same p ao n c f bo m d g w hu hf hv hg (by omega) (by omega)
  · obtain rfl : q = !p := by cases p <;> cases q <;> simp_all
    by_cases hlt : num f n < num g m
    · rw [Int.add_comm, ← Bool.not_not p, Bool.not_not (!p), ← zof_less _ _ _ (by omega), Bool.not_not p]
      exact wadd_lt p ao n c f bo m d g w hu hf hv hg hlt
    · rw [← zof_less _ _ _ (by omega)]
      exact wadd_ge p ao n c f bo m d g w hu hf hv hg (by omega)

set_option maxRecDepth 20000 in
set_option maxHeartbeats 2000000 in
theorem wsub_any (u v : Value) (x y : Int) (L M : Nat) (w : World) (hu : IntAt w u x L) (hv : IntAt w v y M) (hL : L ≤ 1000000) (hM : M ≤ 1000000) :
    Calls Tryd.prog 49 #[u, v] w fun e w' => ∃ r, e = .returned r ∧ RepI w' r (x - y) ∧ Below w.heap.size w w' := by
  obtain ⟨p, ao, n, c, f, rfl, hu, hf, rfl, hn⟩ := hu
  obtain ⟨q, bo, m, d, g, rfl, hv, hg, rfl, hm⟩ := hv
  have hA : ∀ o o' o'', Below w.heap.size w (((w.alloc o).alloc o').alloc o'') := fun o o' o'' => (((Below.refl _ _).alloc (Nat.le_refl _) _).alloc (by simp) _).alloc (by simp; omega) _
  have ne1 : ¬ w.heap.size = w.heap.size + 1 + 1 := by omega
  have ne2 : ¬ w.heap.size + 1 + 1 = w.heap.size := by omega
  obtain ⟨c1, c2, c3, c4⟩ := box_a w 36 36 36 (.bool p) (.slice ao n c) (.bool q) (.slice bo m d) (.bool false) (.slice none 0 0)
  go_enter Tryd.func49, Tryd.ntmps49
  go_wp2_with fail
  refine (wadd_any _ _ (zof p (num f n)) (zof (!q) (num g m)) L M _ ⟨_, _, _, _, _, rfl, hu.below (hA _ _ _), hf, rfl, hn⟩ ⟨_, _, _, _, _, rfl, hv.below (hA _ _ _), hg, rfl, hm⟩ hL hM).mono ?_
  rintro e w2 ⟨r, rfl, hr, hb2⟩
  obtain ⟨b2, ao2, n2, c2, rfl⟩ := hr.open
  obtain ⟨q1, q2, q3, q4⟩ := keepW hb2 (by simp) (res2 w _ _ _ _ _)
  go_wp2
  (try simp only [Exit.inBlock, Exit.then])
  refine bodyPost_ret (v := .agg #[.bool b2, .slice ao2 n2 c2]) (by simp [results, go_sem, q1, q2]) rfl ?_
  have B2 := (hA _ _ _).trans (hb2.mono (by simp; omega))
  rw [zof_not, ← Int.sub_eq_add_neg] at hr
  exact ⟨_, rfl, hr.store2 q1 q2 _ _, below_store2 B2 (by omega) _ _⟩

set_option maxRecDepth 20000 in
set_option maxHeartbeats 400000 in
theorem mul_wide (u v : Value) (n m : Nat) (f g : Nat → Int) (w : World) (hu : Nums .u64 w u n f) (hv : Nums .u64 w v m g) (hf : U64 n f) (hg : U64 m g) (hnm : n + m ≤ 400000) :
    Calls Tryd.prog 38 #[u, v] w fun e w' => ∃ r, e = .returned r ∧ RepM w.heap.size w' r (num f n * num g m) ∧ Below w.heap.size w w' := by
  have hx := nl_le W32 (num f n) n (by decide) (num_lt f n)
  have hy := nl_le W32 (num g m) m (by decide) (num_lt g m)
  go_enter Tryd.func38, Tryd.ntmps38
  go_wp2_with fail
  refine (plain_any _ _ _ _ hu hf).mono ?_
  rintro e w1 ⟨r1, rfl, hr1, hb1⟩
  go_wp2_with fail
  refine (plain_any _ _ _ _ (hv.below hb1) hg).mono ?_
  rintro e w2 ⟨r2, rfl, hr2, hb2⟩
  go_wp2_with fail
  refine (product_all _ _ (by omega) _ _ _ (Nums.below hr1 hb2) hr2).mono ?_
  rintro e w3 ⟨r, rfl, hr, hb3⟩
  go_wp2
  go_ret
  have := hb1.size
  have := hb2.size
  exact ⟨_, rfl, hr.le (by omega), hb1.trans ((hb2.mono (by omega)).trans (hb3.mono (by omega)))⟩

theorem zof_mul (p q : Bool) (x y : Nat) : zof (!(p == q)) (x * y) = zof p x * zof q y := by
  cases p <;> cases q <;> simp [zof, Int.mul_neg, Int.neg_mul]

set_option maxRecDepth 20000 in
set_option maxHeartbeats 2000000 in
theorem wmul_any (u v : Value) (x y : Int) (L M : Nat) (w : World) (hu : IntAt w u x L) (hv : IntAt w v y M) (hLM : L + M ≤ 400000) :
    Calls Tryd.prog 45 #[u, v] w fun e w' => ∃ r, e = .returned r ∧ RepI w' r (x * y) ∧ Below w.heap.size w w' := by
  obtain ⟨p, ao, n, c, f, rfl, hu, hf, rfl, hn⟩ := hu
  obtain ⟨q, bo, m, d, g, rfl, hv, hg, rfl, hm⟩ := hv
  have hA : ∀ o o' o'', Below w.heap.size w (((w.alloc o).alloc o').alloc o'') := fun o o' o'' => (((Below.refl _ _).alloc (Nat.le_refl _) _).alloc (by simp) _).alloc (by simp; omega) _
  have ne1 : ¬ w.heap.size = w.heap.size + 1 + 1 := by omega
  have ne2 : ¬ w.heap.size + 1 + 1 = w.heap.size := by omega
  obtain ⟨c1, c2, c3, c4⟩ := box_a w 36 36 36 (.bool p) (.slice ao n c) (.bool q) (.slice bo m d) (.bool false) (.slice none 0 0)
  go_enter Tryd.func45, Tryd.ntmps45
  go_wp2
  go_region_held3 (fun w' => w'.cell? ⟨w.heap.size, 0, none⟩ = some (.bool p) ∧ w'.cell? ⟨w.heap.size, 1, none⟩ = some (.slice ao n c) ∧ w'.cell? ⟨w.heap.size + 1, 0, none⟩ = some (.bool q) ∧ w'.cell? ⟨w.heap.size + 1, 1, none⟩ = some (.slice bo m d)) (first | exact keep4 (by assumption) (by simp) (by assumption) | go_keep) (first
    | (go_at_call 38; refine (mul_wide _ _ _ _ _ _ _ (hu.below (hA _ _ _).drew) (hv.below (hA _ _ _).drew) hf hg (by omega)).mono ?_; rintro e w1 ⟨s, rfl, hs, hb1⟩; have hk1 := keepW hb1 (by simp) (res2 w _ _ _ _ _))
    | (go_at_call 50; refine (signed_any _ _ _ _ hs.nums).mono ?_; rintro e w2 ⟨r, rfl, hr, hb2⟩; obtain ⟨b2, ao2, n2, c2, rfl⟩ := hr.open; obtain ⟨q1, q2, q3, q4⟩ := keepW hb2 (Nat.le_refl _) hk1))
  go_wp2
  (try simp only [Exit.inBlock, Exit.then])
  refine bodyPost_ret (v := .agg #[.bool b2, .slice ao2 n2 c2]) (by simp [results, go_sem, q1, q2]) rfl ?_
  have B1 := (hA _ _ _).drew.trans (hb1.mono (by simp; omega))
  have B2 := B1.trans (hb2.mono B1.size)
  rw [zof_mul] at hr
  exact ⟨_, rfl, hr.store2 q1 q2 _ _, below_store2 B2 (by omega) _ _⟩

end Go.Proofs.YthhabammejkjcaaDoor
