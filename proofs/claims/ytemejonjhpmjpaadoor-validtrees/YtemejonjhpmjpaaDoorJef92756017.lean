/-
  Texts of mine, joined: what lies beneath the statement.
-/
import Derived.Test.YtemejonjhpmjpaaDoorJ07a2dd67e2
namespace Go.Proofs.YtemejonjhpmjpaaDoor
open Go.RowKit
set_option linter.unusedVariables false
set_option linter.unusedSimpArgs false

theorem one_cell (w : World) (u : Value) (t : TypeId) : RowAt 1 (w.alloc (.cells #[u] t)) (.slice (some ⟨w.heap.size, 0, none⟩) 1 1) 1 (fun _ _ => u) := by
  refine ⟨_, _, rfl, Nat.le_refl _, by omega, fun _ => ⟨_, _, rfl, fun i hi j hj => ?_⟩⟩
  obtain rfl : i = 0 := by omega
  obtain rfl : j = 0 := by omega
  rw [cell_of_row _ _ _ _ _ _ (heap_alloc_new w (.cells #[u] t))]
  rfl
theorem one_tree {w : World} {v : Value} {n : Nat} {t : Nat → Nd} {L : Nat} (hv : TRow w v n t L) (ty : TypeId) : MRow (w.alloc (.cells #[v] ty)) (.slice (some ⟨w.heap.size, 0, none⟩) 1 1) 1 (fun _ => n) (fun _ => t) L :=
  ⟨_, one_cell w v ty, fun _ _ => hv.below ((Below.refl _ _).alloc (Nat.le_refl _) _)⟩
theorem one_raw {w : World} {v : Value} {n : Nat} {t : Nat → Nd} {L : Nat} (hv : TRaw w v n t L) (ty : TypeId) : MRaw (w.alloc (.cells #[v] ty)) (.slice (some ⟨w.heap.size, 0, none⟩) 1 1) 1 (fun _ => n) (fun _ => t) L :=
  ⟨_, one_cell w v ty, fun _ _ => hv.below ((Below.refl _ _).alloc (Nat.le_refl _) _)⟩


set_option maxRecDepth 100000 in
set_option maxHeartbeats 4000000 in
theorem tree_at (F : Int) (v : Value) (n : Nat) (t : Nat → Nd) (L : Nat) (w : World) (hv : TRow w v n t L) (ht : Tab w) (hL : 1 ≤ L) (hLM : L ≤ 30000) :
    Calls Tryd.prog 12 #[v, .int .i64 F] w fun e w' => ∃ a s d : Int, e = .returned (.bool (decide (a = 0))) ∧ ChkOut F 1 (fun _ => n) (fun _ => t) (.agg #[.int .i64 a, .int .i64 0, .int .i64 s, .int .i64 d]) ∧ Below w.heap.size w w' := by
  obtain ⟨ao, c, rfl, hnc, hc63⟩ := hv.open
  have BB : Below w.heap.size w w := Below.refl _ _
  have M1 := one_tree hv 32
  have hA : Below w.heap.size w (w.alloc (.cells #[.slice ao n c] 32)) := (Below.refl _ _).alloc (Nat.le_refl _) _
  have ht1 := ht.below hA
  go_enter Tryd.func12, Tryd.ntmps12
  go_wp2_with fail
  refine (ok_at F _ 1 (fun _ => n) (fun _ => t) L _ M1 ht1 hL hLM).mono ?_
  rintro e w1 ⟨a, s, d, rfl, HC, b1⟩
  have HCC : Hid (ChkOut F 1 (fun _ => n) (fun _ => t) (.agg #[.int .i64 a, .int .i64 0, .int .i64 s, .int .i64 d])) := HC
  have BB1 := hA.trans (b1.mono hA.size)
  clear HC b1 M1 ht1 hA
  generalize hd : decide (a = 0) = dd
  have HD : Hid (decide (a = 0) = dd) := hd
  clear hd
  go_wp2
  go_ret
  exact ⟨a, s, d, by rw [HD.out]; rfl, HCC.out, BB1⟩

end Go.Proofs.YtemejonjhpmjpaaDoor
