/-
  What nat.DivMod answers, given what nat.divide answers of the two numbers.
-/
import Derived.Test.YthhabammejkjcaaDoorDivide
namespace Go.Proofs.YthhabammejkjcaaDoor
open Go.RowKit

/-- What nat.divide is to answer of x and y. -/
def DivideOk (x y : Nat) : Prop := ∀ (u v : Value) (w : World), Rep w u x → Rep w v y →
    Calls Tryd.prog 32 #[u, v] w fun e w' => ∃ q r, e = .returned (.tuple #[q, r]) ∧ RepM w.heap.size w' q (x / y) ∧ RepM w.heap.size w' r (x % y) ∧ Below w.heap.size w w'

set_option maxRecDepth 20000 in
set_option maxHeartbeats 1000000 in
theorem divMod_of (u v : Value) (n m : Nat) (f g : Nat → Int) (w : World) (hu : Nums .u64 w u n f) (hv : Nums .u64 w v m g) (hf : U64 n f) (hg : U64 m g) (h0 : num g m ≠ 0) (hd : DivideOk (num f n) (num g m)) :
    Calls Tryd.prog 40 #[u, v] w fun e w' => ∃ q r, e = .returned (.tuple #[q, r, .int .i64 0]) ∧ RepM w.heap.size w' q (num f n / num g m) ∧ RepM w.heap.size w' r (num f n % num g m) ∧ Below w.heap.size w w' := by
  have hz : decide (sz (lo g) m = 0) = false := by
    rw [num_sz]; simp only [decide_eq_false_iff_not]; rw [nl_eq_zero W32 _ (by decide)]; exact h0
  go_enter Tryd.func40, Tryd.ntmps40
  go_wp2_with fail
  refine (zero_any _ _ _ _ hv hg).mono ?_
  rintro e w0 ⟨rfl, rfl⟩
  rw [hz]
  go_wp2_with fail
  refine (plain_any _ _ _ _ hu hf).mono ?_
  rintro e w1 ⟨r1, rfl, hr1, hb1⟩
  go_wp2_with fail
  refine (plain_any _ _ _ _ (hv.below hb1) hg).mono ?_
  rintro e w2 ⟨r2, rfl, hr2, hb2⟩
  go_wp2_with fail
  refine (hd _ _ _ (Nums.below hr1 hb2) hr2).mono ?_
  rintro e w3 ⟨q, r, rfl, hq, hr, hb3⟩
  go_wp2
  go_ret3
  have := hb1.size
  have := hb2.size
  exact ⟨_, _, rfl, hq.le (by omega), hr.le (by omega), hb1.trans ((hb2.mono (by omega)).trans (hb3.mono (by omega)))⟩

set_option maxRecDepth 20000 in
set_option maxHeartbeats 400000 in
theorem divMod_zero (u v : Value) (m : Nat) (g : Nat → Int) (w : World) (hv : Nums .u64 w v m g) (hg : U64 m g) (h0 : num g m = 0) :
    Calls Tryd.prog 40 #[u, v] w fun e w' => e = .returned (.tuple #[.slice none 0 0, .slice none 0 0, .int .i64 2]) ∧ w' = w := by
  have hz : decide (sz (lo g) m = 0) = true := by
    rw [num_sz, h0, nl_zero]; rfl
  go_enter Tryd.func40, Tryd.ntmps40
  go_wp2_with fail
  refine (zero_any _ _ _ _ hv hg).mono ?_
  rintro e w0 ⟨rfl, rfl⟩
  rw [hz]
  go_wp2
  go_ret3
  exact ⟨rfl, rfl⟩

end Go.Proofs.YthhabammejkjcaaDoor
