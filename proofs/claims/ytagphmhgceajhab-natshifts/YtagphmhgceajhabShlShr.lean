/-
  What nat.Shl and nat.Shr answer.
-/
import Derived.Test.YtagphmhgceajhabShift
namespace Go.Proofs.Ytagphmhgceajhab
open Go.RowKit

set_option maxHeartbeats 400000 in
theorem shl_range (u : Value) (k : Int) (w : World) (hk : k < 0 ∨ 1048576 < k) :
    Calls Try.prog 16 #[u, .int .i64 k] w fun e w' => e = .returned (.tuple #[.slice none 0 0, .int .i64 8]) ∧ w' = w := by
  by_cases h0 : k < 0
  · go_enter Try.func16, Try.ntmps16
    go_wp2
    go_ret2
    exact ⟨rfl, rfl⟩
  · have h1 : 1048576 < k := by omega
    go_enter Try.func16, Try.ntmps16
    go_wp2
    go_ret2
    exact ⟨rfl, rfl⟩

set_option maxHeartbeats 400000 in
theorem shl_ok (u : Value) (n k : Nat) (f : Nat → Int) (w : World) (hu : Nums .u64 w u n f) (hf : U64 n f) (hn : n ≤ 1000000) (hk : k ≤ 1048576) :
    Calls Try.prog 16 #[u, .int .i64 (k : Int)] w fun e w' => ∃ r, e = .returned (.tuple #[r, .int .i64 0]) ∧ RepM w.heap.size w' r (num f n * 2 ^ k) ∧ Below w.heap.size w w' := by
  have hx := nl_le W32 (num f n) n (by decide) (num_lt f n)
  have h0 : ¬ (k : Int) < 0 := by omega
  have h1 : ¬ (1048576 : Int) < (k : Int) := by omega
  go_enter Try.func16, Try.ntmps16
  go_wp2_with fail
  refine (plain_any _ _ _ _ hu hf).mono ?_
  rintro e w1 ⟨r1, rfl, hr1, hb1⟩
  go_wp2_with fail
  refine (shiftUp_any _ _ k _ hr1 (by omega) hk).mono ?_
  rintro e w2 ⟨r2, rfl, hr2, hb2⟩
  have s1 := hb1.size
  go_wp2
  go_ret2
  exact ⟨_, rfl, hr2.le s1, hb1.trans (hb2.mono s1)⟩

set_option maxHeartbeats 400000 in
theorem shr_range (u : Value) (k : Int) (w : World) (hk : k < 0) :
    Calls Try.prog 17 #[u, .int .i64 k] w fun e w' => e = .returned (.tuple #[.slice none 0 0, .int .i64 8]) ∧ w' = w := by
  go_enter Try.func17, Try.ntmps17
  go_wp2
  go_ret2
  exact ⟨rfl, rfl⟩

set_option maxHeartbeats 400000 in
theorem shr_ok (u : Value) (n k : Nat) (f : Nat → Int) (w : World) (hu : Nums .u64 w u n f) (hf : U64 n f) (hn : n ≤ 1000000) (hk : k ≤ 9223372036854775807) :
    Calls Try.prog 17 #[u, .int .i64 (k : Int)] w fun e w' => ∃ r, e = .returned (.tuple #[r, .int .i64 0]) ∧ RepM w.heap.size w' r (num f n / 2 ^ k) ∧ Below w.heap.size w w' := by
  have hx := nl_le W32 (num f n) n (by decide) (num_lt f n)
  have h0 : ¬ (k : Int) < 0 := by omega
  go_enter Try.func17, Try.ntmps17
  go_wp2_with fail
  refine (plain_any _ _ _ _ hu hf).mono ?_
  rintro e w1 ⟨r1, rfl, hr1, hb1⟩
  go_wp2_with fail
  refine (shiftDown_any _ _ k _ hr1 (by omega) hk).mono ?_
  rintro e w2 ⟨r2, rfl, hr2, hb2⟩
  have s1 := hb1.size
  go_wp2
  go_ret2
  exact ⟨_, rfl, hr2.le s1, hb1.trans (hb2.mono s1)⟩

end Go.Proofs.Ytagphmhgceajhab
