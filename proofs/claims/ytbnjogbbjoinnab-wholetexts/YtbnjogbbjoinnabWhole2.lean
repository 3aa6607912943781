/-
  What whole.less, Add, Sub and Mul answer.
-/
import Derived.Test.YtbnjogbbjoinnabWhole1
import Derived.Test.YtbnjogbbjoinnabSub
import Derived.Test.YtbnjogbbjoinnabProduct
namespace Go.Proofs.Ytbnjogbbjoinnab
open Go.RowKit

set_option maxRecDepth 20000 in
set_option maxHeartbeats 400000 in
theorem less_any (u v : Value) (n m : Nat) (f g : Nat → Int) (w : World) (hu : Nums .u64 w u n f) (hv : Nums .u64 w v m g) (hf : U64 n f) (hg : U64 m g) (h : num g m ≤ num f n) :
    Calls Try.prog 40 #[u, v] w fun e w' => ∃ r, e = .returned r ∧ RepM w.heap.size w' r (num f n - num g m) ∧ Below w.heap.size w w' := by
  go_enter Try.func40, Try.ntmps40
  go_wp2_with fail
  refine (sub_ok _ _ _ _ _ _ _ hu hv hf hg h).mono ?_
  rintro e w1 ⟨r, rfl, hr, hb⟩
  go_wp2
  go_ret
  exact ⟨_, rfl, hr, hb⟩

/-- The two cells of a whole number that came in, laid in a variable. -/
theorem box_a (w : World) (t t' t'' : TypeId) (p q p' q' x y : Value) :
    (((w.alloc (.cells #[p, q] t)).alloc (.cells #[p', q'] t')).alloc (.cells #[x, y] t'')).cell? ⟨w.heap.size, 0, none⟩ = some p ∧
    (((w.alloc (.cells #[p, q] t)).alloc (.cells #[p', q'] t')).alloc (.cells #[x, y] t'')).cell? ⟨w.heap.size, 1, none⟩ = some q ∧
    (((w.alloc (.cells #[p, q] t)).alloc (.cells #[p', q'] t')).alloc (.cells #[x, y] t'')).cell? ⟨w.heap.size + 1, 0, none⟩ = some p' ∧
    (((w.alloc (.cells #[p, q] t)).alloc (.cells #[p', q'] t')).alloc (.cells #[x, y] t'')).cell? ⟨w.heap.size + 1, 1, none⟩ = some q' := by
  have h0 := resW w t p q
  have h1 := res1 w (.cells #[p, q] t) t' p' q'
  have b1 : Below (w.heap.size + 1) (w.alloc (.cells #[p, q] t)) (((w.alloc (.cells #[p, q] t)).alloc (.cells #[p', q'] t')).alloc (.cells #[x, y] t'')) :=
    ((Below.refl _ _).alloc (by simp) _).alloc (by simp) _
  have b2 : Below (w.heap.size + 1 + 1) ((w.alloc (.cells #[p, q] t)).alloc (.cells #[p', q'] t')) (((w.alloc (.cells #[p, q] t)).alloc (.cells #[p', q'] t')).alloc (.cells #[x, y] t'')) :=
    (Below.refl _ _).alloc (by simp) _
  have k0 := keep2 b1 (by simp) ⟨h0.1, h0.2.1⟩
  have k1 := keep2 b2 (by simp) ⟨h1.1, h1.2.1⟩
  exact ⟨k0.1, k0.2, k1.1, k1.2⟩

theorem zof_add (p : Bool) (x y : Nat) : zof p (x + y) = zof p x + zof p y := by cases p <;> simp [zof] <;> omega
theorem zof_less (p : Bool) (x y : Nat) (h : y ≤ x) : zof p (x - y) = zof p x + zof (!p) y := by cases p <;> simp [zof] <;> omega

set_option maxRecDepth 20000 in
set_option maxHeartbeats 400000 in
theorem mul_wide (u v : Value) (n m : Nat) (f g : Nat → Int) (w : World) (hu : Nums .u64 w u n f) (hv : Nums .u64 w v m g) (hf : U64 n f) (hg : U64 m g) (hnm : n + m ≤ 400000) :
    Calls Try.prog 23 #[u, v] w fun e w' => ∃ r, e = .returned r ∧ RepM w.heap.size w' r (num f n * num g m) ∧ Below w.heap.size w w' := by
  have hx := nl_le W32 (num f n) n (by decide) (num_lt f n)
  have hy := nl_le W32 (num g m) m (by decide) (num_lt g m)
  go_enter Try.func23, Try.ntmps23
  go_wp2_with fail
  refine (plain_any _ _ _ _ hu hf).mono ?_
  rintro e w1 ⟨r1, rfl, hr1, hb1⟩
  go_wp2_with fail
  refine (plain_any _ _ _ _ (hv.below hb1) hg).mono ?_
  rintro e w2 ⟨r2, rfl, hr2, hb2⟩
  go_wp2_with fail
  refine (product_all _ _ (by omega) _ _ _ (Nums.below hr1 hb2) hr2).mono ?_
  rintro e w3 ⟨r, rfl, hr, hb3⟩
  go_wp2
  go_ret
  have := hb1.size
  have := hb2.size
  exact ⟨_, rfl, hr.le (by omega), hb1.trans ((hb2.mono (by omega)).trans (hb3.mono (by omega)))⟩

theorem zof_mul (p q : Bool) (x y : Nat) : zof (!(p == q)) (x * y) = zof p x * zof q y := by
  cases p <;> cases q <;> simp [zof, Int.mul_neg, Int.neg_mul]

end Go.Proofs.Ytbnjogbbjoinnab
