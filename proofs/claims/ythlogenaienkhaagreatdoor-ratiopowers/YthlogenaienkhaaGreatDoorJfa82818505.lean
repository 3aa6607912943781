/-
  Texts of mine, joined: what lies beneath the statement.
-/
import Derived.Test.YthlogenaienkhaaGreatDoorJ6003b9e819
import Derived.Test.YthlogenaienkhaaGreatDoorJ74e2cec073
/-
 What nat.Pow and nat.PowMod answer,and the document's own Power.
-/
namespace Go.Proofs.YthlogenaienkhaaGreatDoor
open Go.RowKit

set_option maxRecDepth 20000 in
set_option maxHeartbeats 400000 in
theorem pow_ok (u : Value) (n k : Nat) (f : Nat → Int) (w : World) (hu : Nums .u64 w u n f) (hf : U64 n f) (hn : n ≤ 40) (hk : k ≤ 4096) :
  Calls Tryz.prog 99 #[u,.int .i64 (k : Int)] w fun e w' => ∃ r,e = .returned (.tuple #[r,.int .i64 0]) ∧ RepM w.heap.size w' r (num f n ^ k) ∧ Below w.heap.size w w' := by
 have hx := nl_le W32 (num f n) n (by decide) (num_lt f n)
 have h0 : ¬ (k : Int) < 0 := by omega
 have h1 : ¬ (4096 : Int) < (k : Int) := by omega
 go_enter Tryz.func99,Tryz.ntmps99
 go_wp2_with fail
 refine (plain_any _ _ _ _ hu hf).mono ?_
 rintro e w1 ⟨r1,rfl,hr1,hb1⟩
 go_wp2_with fail
 refine (power_any _ _ k _ hr1 hk (by omega)).mono ?_
 rintro e w2 ⟨r2,rfl,hr2,hb2⟩
 have s1 := hb1.size
 go_wp2
 go_ret2
 exact ⟨_,rfl,hr2.le s1,hb1.trans (hb2.mono s1)⟩

end Go.Proofs.YthlogenaienkhaaGreatDoor
