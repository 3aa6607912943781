/-
  Proves that Left tells to which side of a node any entry goes, whatever comes in (the statement RouteLefts, its tied card); the table of math/bits lies as the program's text lays it; no other condition.
-/
import Derived.Test.YtnnnkajomljdgaaDoorRows
import Derived.Test.YtnnnkajomljdgaaDoorJb2b4823436
import Derived.Test.YtnnnkajomljdgaaDoorJ467eee16b1
import Derived.Test.YtnnnkajomljdgaaDoorJ987b0c3e1f
import Derived.Test.YtnnnkajomljdgaaDoorJfee502d25b
import Derived.WalkKit
import Derived.ProofKit
import Derived.OpenShut
import Derived.ShutString
import Derived.ChangeOld
import Derived.Below
import Derived.Test.YtnnnkajomljdgaaDoorTie
import Derived.Test.YtnnnkajomljdgaaDoorCards
import Derived.LaidByTextLater
import Derived.LaidHandle
import Derived.Lib.LaidTab
import Derived.SevenTiedAt
namespace Go.Proofs.YtnnnkajomljdgaaDoor.routeLefts
open Go.ChangeShapes Go.WideShapes Go.ChangeAt Go.RowKit
open Go.ChangeMaps (open_string shut_string)
set_option linter.unusedVariables false
set_option linter.unusedSimpArgs false

set_option maxRecDepth 100000 in
set_option maxHeartbeats 16000000 in
theorem walk (v : Value) (d : Nd) (ms p : Bool) (ao : Option Addr) (n c : Nat) (bo : Option Addr) (m e : Nat) (f g : Nat → Int) (w : World) (hv : NodeV w v d 4) (h1 : Raw w (.slice ao n c) n f) (h2 : Raw w (.slice bo m e) m g) (ht : Tab w) :
    Calls Tryd.prog 3 #[v, .agg #[.bool ms, .bool p, .slice ao n c, .slice bo m e]] w fun e w' => e = .returned (.bool true) ∧ Below w.heap.size w w' := by
  obtain ⟨p1, a1, n1, c1, b1, m1, d1, p2, a2, n2, c2, b2, m2, d2, p3, a3, n3, c3, b3, m3, d3, rfl, hN⟩ := hv.open
  clear hv
  have BB : Below w.heap.size w w := Below.refl _ _
  obtain ⟨i0, hi0, _, hz0, _⟩ := info_parts info_node
  obtain ⟨j0, hj0, _, hy0, _⟩ := info_parts info_cell
  have HI : Hid ((Tryd.prog.info? 29 = some i0 ∧ i0.size = 14) ∧ (Tryd.prog.info? 31 = some j0 ∧ j0.size = 4)) := ⟨⟨hi0, hz0⟩, hj0, hy0⟩
  clear hi0 hz0 hj0 hy0
  have HT0 : Hid (Tab w) := ht
  clear ht
  have HH0 : Hid (Raw w (.slice ao n c) n f ∧ Raw w (.slice bo m e) m g) := ⟨h1, h2⟩
  clear h1 h2
  obtain ⟨W0, hW0, hS0, hL0, VN, _⟩ := V14.lay w 29 (.bool d.leaf) (.int .i64 d.feat) (.bool p1) (.slice a1 n1 c1) (.slice b1 m1 d1) (.int .i64 d.left) (.int .i64 d.right) (.bool d.miss) (.bool p2) (.slice a2 n2 c2) (.slice b2 m2 d2) (.bool p3) (.slice a3 n3 c3) (.slice b3 m3 d3)
  have BN := Blk10.new w #[.bool d.leaf, .int .i64 d.feat, .bool p1, .slice a1 n1 c1, .slice b1 m1 d1, .int .i64 d.left, .int .i64 d.right, .bool d.miss, .bool p2, .slice a2 n2 c2, .slice b2 m2 d2, .bool p3, .slice a3 n3 c3, .slice b3 m3 d3] 29
  rw [← hW0] at BN
  obtain ⟨W1, hW1, hS1, hL1, VC⟩ := V4.lay W0 31 (.bool ms) (.bool p) (.slice ao n c) (.slice bo m e)
  have BC := Blk10.new W0 #[.bool ms, .bool p, .slice ao n c, .slice bo m e] 31
  rw [← hW1, hS0] at BC
  rw [hS0] at hS1
  replace BN := BN.below hL1
  have T1 := one_node ((hN.below hL0).below hL1) 29
  obtain ⟨W2, hW2, hS2, hL2, _, _⟩ := V14.lay W1 29 (.bool d.leaf) (.int .i64 d.feat) (.bool p1) (.slice a1 n1 c1) (.slice b1 m1 d1) (.int .i64 d.left) (.int .i64 d.right) (.bool d.miss) (.bool p2) (.slice a2 n2 c2) (.slice b2 m2 d2) (.bool p3) (.slice a3 n3 c3) (.slice b3 m3 d3)
  rw [← hW2] at T1
  have M1 := one_raw T1 36
  have hA3 : Below W2.heap.size W2 (W2.alloc (.cells #[.slice (some ⟨W1.heap.size, 0, none⟩) 1 1] 36)) := (Below.refl _ _).alloc (Nat.le_refl _) _
  generalize hW3 : W2.alloc (.cells #[.slice (some ⟨W1.heap.size, 0, none⟩) 1 1] 36) = W3 at M1 hA3
  replace BN := (BN.below hL2).below hA3
  replace BC := (BC.below hL2).below hA3
  replace BB := ((BB.trans (hL0.mono BB.size)).trans (hL1.mono (by omega))).trans (hL2.mono (by omega))
  replace BB := BB.trans (hA3.mono (by omega))
  clear hL0 hL1 hL2 hA3 hN T1 VN VC
  go_enter Tryd.func3, Tryd.ntmps3
  go_wp2_with fail
  rw [← hW0, ← hW1, ← hW2]
  rw [hS2] at M1
  (try rw [hS1] at M1)
  (try rw [hS1] at hW3)
  (try rw [hW3])
  clear hW0 hW1 hW2 hW3 hS0 hS1 hS2
  refine (few7_at 0 _ 1 (fun _ => 1) (fun _ _ => d) _ M1).mono ?_
  rintro e_ w4 ⟨vm, rfl, MO, b4⟩
  obtain ⟨am, cm, rfl⟩ := MO.form
  have MR : MRow w4 (.slice am 1 cm) 1 (fun _ => 1) (fun _ _ => d) 4 := by simpa using MO.row
  clear MO M1
  replace BN := BN.below b4
  replace BC := BC.below b4
  replace BB := BB.trans (b4.mono BB.size)
  clear b4
  obtain ⟨bT, oT, cT, aT, dT, hvv, hcc, XT, TR⟩ := MR.at (i := 0) (by omega)
  cases hvv
  rw [Nat.add_zero] at XT
  clear MR
  obtain ⟨bnq, ofnq, ccq, p1q, a1q, n1q, c1q, b1q, m1q, d1q, p2q, a2q, n2q, c2q, b2q, m2q, d2q, p3q, a3q, n3q, c3q, b3q, m3q, d3q, hvvq, hccq, hc6q, NNq, r1q, r2q, r3q, i1q, i2q, i3q⟩ := TR.at (by omega : 0 < 1)
  cases hvvq
  (try rw [show min 1 6 = 1 by omega])
  clear i1q i2q i3q r2q r3q
  obtain ⟨W5, hW5, hS5, hL5, VM⟩ := V2.lay w4 34 (.int .i64 0) (.slice (some ⟨bT, oT, none⟩) 1 cm)
  have XT5 := (hL5.cell (p := ⟨bT, oT, none⟩) (World.block_lt_of_cell? _ _ XT)).trans XT
  have NN5 := NNq.low hL5
  clear XT NNq TR
  replace BN := BN.below hL5
  replace BC := BC.below hL5
  replace r1q := r1q.below hL5
  replace BB := BB.trans (hL5.mono BB.size)
  clear hL5
  obtain ⟨n_0, n_1, n_2, n_3, n_4, n_5, n_6, n_7, n_8, n_9, n_10, n_11, n_12, n_13⟩ := id NN5
  obtain ⟨z1, z2, z3, z4⟩ := id VM
  simp only [Nat.zero_mul, Nat.add_zero] at n_0 n_1 n_2 n_3 n_4 n_5 n_6 n_7 n_8 n_9 n_10 n_11 n_12 n_13
  rw [hW5] at z1 z2 z3 z4 XT5 n_0 n_1 n_2 n_3 n_4 n_5 n_6 n_7 n_8 n_9 n_10 n_11 n_12 n_13
  have hBN := BN.heap
  rw [hW5] at hBN
  go_wp2_with (refine wpList_store_row rfl 29 _ _ rfl i0 HI.out.1.1 w.heap.size rfl _ rfl _ _ hBN rfl HI.out.1.2 (by simp [Value.oneCell']) ?_; intro W9 hB9 hE9; rw [← hW5] at hE9; have BN9 : Blk10 W9 w.heap.size #[.bool d.leaf, .int .i64 d.feat, .bool p1q, .slice a1q n1q c1q, .slice b1q m1q d1q, .int .i64 d.left, .int .i64 d.right, .bool d.miss, .bool p2q, .slice a2q n2q c2q, .slice b2q m2q d2q, .bool p3q, .slice a3q n3q c3q, .slice b3q m3q d3q] 29 := ⟨hB9⟩; have BC9 : Blk10 W9 (w.heap.size + 1) #[.bool ms, .bool p, .slice ao n c, .slice bo m e] 31 := (by rw [hE9]; exact BC.other (by omega)); have r19 := r1q.keepL (w' := W9) (by rw [hE9]; exact BN.keep (List.forall_mem_cons.2 ⟨limb_bool _, (List.forall_mem_cons.2 ⟨limb_int _, (List.forall_mem_cons.2 ⟨limb_bool _, (List.forall_mem_cons.2 ⟨limb_slice _ _ _, (List.forall_mem_cons.2 ⟨limb_slice _ _ _, (List.forall_mem_cons.2 ⟨limb_int _, (List.forall_mem_cons.2 ⟨limb_int _, (List.forall_mem_cons.2 ⟨limb_bool _, (List.forall_mem_cons.2 ⟨limb_bool _, (List.forall_mem_cons.2 ⟨limb_slice _ _ _, (List.forall_mem_cons.2 ⟨limb_slice _ _ _, (List.forall_mem_cons.2 ⟨limb_bool _, (List.forall_mem_cons.2 ⟨limb_slice _ _ _, (List.forall_mem_cons.2 ⟨limb_slice _ _ _, (fun _ h => absurd h List.not_mem_nil)⟩)⟩)⟩)⟩)⟩)⟩)⟩)⟩)⟩)⟩)⟩)⟩)⟩)⟩) _); have BB9 : Below w.heap.size w W9 := (by rw [hE9]; exact below_setRow BB (Nat.le_refl _) _); clear n_0 n_1 n_2 n_3 n_4 n_5 n_6 n_7 n_8 n_9 n_10 n_11 n_12 n_13 z1 z2 z3 z4 XT5 hBN hB9 hE9 hW5 hS5 VM NN5 BN BC r1q BB; obtain ⟨x_0, x_1, x_2, x_3⟩ := BC9.v4)
  clear x_0 x_1 x_2 x_3
  have CW := one_entry (ms := ms) (p := p) (HH0.out.1.below BB9) (HH0.out.2.below BB9) 3 31
  have hA6 : Below W9.heap.size W9 (W9.alloc (.cells #[.bool ms, .bool p, .slice ao n c, .slice bo m e] 31)) := (Below.refl _ _).alloc (Nat.le_refl _) _
  replace BN9 := BN9.below hA6
  replace BC9 := BC9.below hA6
  replace r19 := r19.below hA6
  replace BB9 := BB9.trans (hA6.mono BB9.size)
  clear hA6
  generalize hq : mkRat (zof p (num f (min n 3))) (num g (min m 3)) = q4 at CW
  refine (few9_at _ 1 1 _ _ CW (by omega)).mono ?_
  rintro e_ w6 ⟨vu, rfl, CO, b6⟩
  obtain ⟨au, cu, rfl⟩ := CO.form
  have CR : CRow w6 (.slice au 1 cu) 1 (fun _ => ⟨ms, q4⟩) 3 := by simpa using CO.row
  clear CO CW
  replace BN9 := BN9.below b6
  replace BC9 := BC9.below b6
  replace r19 := r19.below b6
  replace BB9 := BB9.trans (b6.mono BB9.size)
  clear b6
  obtain ⟨b4, off4, c94, p4, a4, n4, c4, y4, m4, d4, hv4, hcc4, hc64, X0, X1, X2, X3, r4⟩ := CR.at (i := 0) (by omega)
  cases hv4
  simp only [Nat.zero_mul, Nat.add_zero] at X0 X1 X2 X3
  (try rw [show min 1 1 = 1 by omega])
  have hBC := BC9.heap
  go_wp2_with (refine wpList_store_row rfl 31 _ _ rfl j0 HI.out.2.1 (w.heap.size + 1) rfl _ rfl _ _ hBC rfl HI.out.2.2 (by simp [Value.oneCell']) ?_; intro W12 hB12 hE12; have BC12 : Blk10 W12 (w.heap.size + 1) #[.bool ms, .bool p4, .slice a4 n4 c4, .slice y4 m4 d4] 31 := ⟨hB12⟩; have BN12 : Blk10 W12 w.heap.size #[.bool d.leaf, .int .i64 d.feat, .bool p1q, .slice a1q n1q c1q, .slice b1q m1q d1q, .int .i64 d.left, .int .i64 d.right, .bool d.miss, .bool p2q, .slice a2q n2q c2q, .slice b2q m2q d2q, .bool p3q, .slice a3q n3q c3q, .slice b3q m3q d3q] 29 := (by rw [hE12]; exact BN9.other (by omega)); have K12 : KeepQ IsLimb w6 W12 := (by rw [hE12]; exact BC9.keep (List.forall_mem_cons.2 ⟨limb_bool _, (List.forall_mem_cons.2 ⟨limb_bool _, (List.forall_mem_cons.2 ⟨limb_slice _ _ _, (List.forall_mem_cons.2 ⟨limb_slice _ _ _, (fun _ h => absurd h List.not_mem_nil)⟩)⟩)⟩)⟩) _); have r1 := r19.keepL K12; have r4_ := r4.keepL K12; have BB : Below w.heap.size w W12 := (by rw [hE12]; exact below_setRow BB9 (by omega) _); clear X0 X1 X2 X3 hBC hB12 hE12 BN9 BC9 r19 r4 BB9 CR K12)
  have ht := HT0.out.below BB
  have r4 : RatAt W12 (.agg #[.bool p4, .slice a4 n4 c4, .slice y4 m4 d4]) q4 4 := RatAt.le r4_ (by omega)
  clear r4_ hq
  have hDr : Below W12.heap.size W12 W12.drew := (Below.refl _ _).drew
  replace ht := ht.below hDr
  replace r1 := r1.below hDr
  replace r4 := r4.below hDr
  replace BN12 := BN12.below hDr
  replace BC12 := BC12.below hDr
  replace BB := BB.trans (hDr.mono BB.size)
  clear hDr
  refine wp_region_held_drew (S := (fun w' => w'.cell? ⟨w.heap.size, 0, none⟩ = some (.bool d.leaf) ∧ w'.cell? ⟨w.heap.size, 1, none⟩ = some (.int .i64 d.feat) ∧ w'.cell? ⟨w.heap.size, 2, none⟩ = some (.bool p1q) ∧ w'.cell? ⟨w.heap.size, 3, none⟩ = some (.slice a1q n1q c1q) ∧ w'.cell? ⟨w.heap.size, 4, none⟩ = some (.slice b1q m1q d1q) ∧ w'.cell? ⟨w.heap.size, 5, none⟩ = some (.int .i64 d.left) ∧ w'.cell? ⟨w.heap.size, 6, none⟩ = some (.int .i64 d.right) ∧ w'.cell? ⟨w.heap.size, 7, none⟩ = some (.bool d.miss) ∧ w'.cell? ⟨w.heap.size, 8, none⟩ = some (.bool p2q) ∧ w'.cell? ⟨w.heap.size, 9, none⟩ = some (.slice a2q n2q c2q) ∧ w'.cell? ⟨w.heap.size, 10, none⟩ = some (.slice b2q m2q d2q) ∧ w'.cell? ⟨w.heap.size, 11, none⟩ = some (.bool p3q) ∧ w'.cell? ⟨w.heap.size, 12, none⟩ = some (.slice a3q n3q c3q) ∧ w'.cell? ⟨w.heap.size, 13, none⟩ = some (.slice b3q m3q d3q) ∧ w'.cell? ⟨w.heap.size + 1, 0, none⟩ = some (.bool ms) ∧ w'.cell? ⟨w.heap.size + 1, 1, none⟩ = some (.bool p4) ∧ w'.cell? ⟨w.heap.size + 1, 2, none⟩ = some (.slice a4 n4 c4) ∧ w'.cell? ⟨w.heap.size + 1, 3, none⟩ = some (.slice y4 m4 d4))) (by kernel_rfl) ?_ (fun hHeld => ?_)
  · exact ⟨BN12.v14.c0, BN12.v14.c1, BN12.v14.c2, BN12.v14.c3, BN12.v14.c4, BN12.v14.c5, BN12.v14.c6, BN12.v14.c7, BN12.v14.c8, BN12.v14.c9, BN12.v14.c10, BN12.v14.c11, BN12.v14.c12, BN12.v14.c13, BC12.v4.1, BC12.v4.2.1, BC12.v4.2.2.1, BC12.v4.2.2.2⟩
  generalize W12.drew = W31 at *
  refine wpAnyH_take (i := 0) (v := ?_) (by simp only [List.getElem?_toArray, List.getElem?_cons_succ, List.getElem?_cons_zero]; rfl) (by kernel_rfl) (by kernel_rfl) (by kernel_rfl) (by exact fun _ _ _ h => h) (Or.inl ⟨by rfl, ?_⟩) (by assumption) ?_
  rotate_left
  · (intro w hSw; (try dsimp only at hSw); go_simp; (try with_reducible rfl))
  (try simp only [Act.put, List.setIfInBounds_toArray, List.set_cons_zero, List.set_cons_succ])
  refine wpAnyH_take (i := 1) (v := ?_) (by simp only [List.getElem?_toArray, List.getElem?_cons_succ, List.getElem?_cons_zero]; rfl) (by kernel_rfl) (by kernel_rfl) (by kernel_rfl) (by exact fun _ _ _ h => h) (Or.inl ⟨by rfl, ?_⟩) (by assumption) ?_
  rotate_left
  · (intro w hSw; (try dsimp only at hSw); go_simp; (try with_reducible rfl))
  (try simp only [Act.put, List.setIfInBounds_toArray, List.set_cons_zero, List.set_cons_succ])
  refine wpAnyH_take (i := 3) (v := ?_) (by simp only [List.getElem?_toArray, List.getElem?_cons_succ, List.getElem?_cons_zero]; rfl) (by kernel_rfl) (by kernel_rfl) (by kernel_rfl) (by exact fun _ _ _ h => h) (Or.inl ⟨by rfl, ?_⟩) (by assumption) ?_
  rotate_left
  · (intro w hSw; (try dsimp only at hSw); go_simp; (try with_reducible rfl))
  (try simp only [Act.put, List.setIfInBounds_toArray, List.set_cons_zero, List.set_cons_succ])
  refine wpAnyH_take (i := 4) (v := ?_) (by simp only [List.getElem?_toArray, List.getElem?_cons_succ, List.getElem?_cons_zero]; rfl) (by kernel_rfl) (by kernel_rfl) (by kernel_rfl) (by exact fun _ _ _ h => h) (Or.inl ⟨by rfl, ?_⟩) (by assumption) ?_
  rotate_left
  · (intro w hSw; (try dsimp only at hSw); go_simp; (try with_reducible rfl))
  (try simp only [Act.put, List.setIfInBounds_toArray, List.set_cons_zero, List.set_cons_succ])
  refine wpAnyH_ready (rs := [2]) (by kernel_rfl) (by simp) ?_
  refine AllReadyH.cons (by simp only [List.getElem?_toArray, List.getElem?_cons_succ, List.getElem?_cons_zero]; rfl) (fun K hK => ?_) AllReadyH.nil
  go_simp
  refine (rleft_at d ⟨ms, q4⟩ p1q p2q p3q p4 a1q b1q a2q b2q a3q b3q a4 y4 n1q c1q m1q d1q n2q c2q m2q d2q n3q c3q m3q d3q n4 c4 m4 d4 4 _ r1 r4 (by omega) (by omega)).mono ?_
  rintro e w31 ⟨rfl, b31⟩
  obtain ⟨gg, hgg⟩ : ∃ gg, goL d ⟨ms, q4⟩ = gg := ⟨_, rfl⟩
  have HG : Hid (goL d ⟨ms, q4⟩ = gg) := hgg
  rw [hgg]
  clear hgg
  go_wp2_with fail
  replace ht := ht.below b31
  replace r1 := r1.below b31
  replace r4 := r4.below b31
  replace BN12 := BN12.below b31
  replace BC12 := BC12.below b31
  replace BB := BB.trans (b31.mono BB.size)
  clear b31
  refine hK.out _ _ ?_ (fun hH1 => ?_)
  · exact ⟨BN12.v14.c0, BN12.v14.c1, BN12.v14.c2, BN12.v14.c3, BN12.v14.c4, BN12.v14.c5, BN12.v14.c6, BN12.v14.c7, BN12.v14.c8, BN12.v14.c9, BN12.v14.c10, BN12.v14.c11, BN12.v14.c12, BN12.v14.c13, BC12.v4.1, BC12.v4.2.1, BC12.v4.2.2.1, BC12.v4.2.2.2⟩
  clear hK K hHeld
  (try simp only [Act.put, List.setIfInBounds_toArray, List.set_cons_zero, List.set_cons_succ])
  refine wpAnyH_ready (rs := [5]) (by kernel_rfl) (by simp) ?_
  refine AllReadyH.cons (by simp only [List.getElem?_toArray, List.getElem?_cons_succ, List.getElem?_cons_zero]; rfl) (fun K hK => ?_) AllReadyH.nil
  go_simp
  refine (lleft_at d ⟨ms, q4⟩ p1q p2q p3q p4 a1q b1q a2q b2q a3q b3q a4 y4 n1q c1q m1q d1q n2q c2q m2q d2q n3q c3q m3q d3q n4 c4 m4 d4 4 _ r1 r4 (by omega) (by omega)).mono ?_
  rintro e w32 ⟨rfl, b32⟩
  rw [HG.out]
  go_wp2_with fail
  replace ht := ht.below b32
  replace r1 := r1.below b32
  replace r4 := r4.below b32
  replace BN12 := BN12.below b32
  replace BC12 := BC12.below b32
  replace BB := BB.trans (b32.mono BB.size)
  clear b32
  refine hK.out _ _ ?_ (fun hH2 => ?_)
  · exact ⟨BN12.v14.c0, BN12.v14.c1, BN12.v14.c2, BN12.v14.c3, BN12.v14.c4, BN12.v14.c5, BN12.v14.c6, BN12.v14.c7, BN12.v14.c8, BN12.v14.c9, BN12.v14.c10, BN12.v14.c11, BN12.v14.c12, BN12.v14.c13, BC12.v4.1, BC12.v4.2.1, BC12.v4.2.2.1, BC12.v4.2.2.2⟩
  clear hK K hH1
  (try simp only [Act.put, List.setIfInBounds_toArray, List.set_cons_zero, List.set_cons_succ])
  refine wpAnyH_take (i := 6) (v := ?_) (by simp only [List.getElem?_toArray, List.getElem?_cons_succ, List.getElem?_cons_zero]; rfl) (by kernel_rfl) (by kernel_rfl) (by kernel_rfl) (by exact fun _ _ _ h => h) (Or.inl ⟨by rfl, ?_⟩) (by assumption) ?_
  rotate_left
  · (intro w hSw; (try dsimp only at hSw); go_simp; (try with_reducible rfl))
  (try simp only [Act.put, List.setIfInBounds_toArray, List.set_cons_zero, List.set_cons_succ])
  refine wpAnyH_take (i := 7) (v := ?_) (by simp only [List.getElem?_toArray, List.getElem?_cons_succ, List.getElem?_cons_zero]; rfl) (by kernel_rfl) (by kernel_rfl) (by kernel_rfl) (by exact fun _ _ _ h => h) (Or.inl ⟨by rfl, ?_⟩) (by assumption) ?_
  rotate_left
  · (intro w hSw; (try dsimp only at hSw); go_simp; (try with_reducible rfl))
  (try simp only [Act.put, List.setIfInBounds_toArray, List.set_cons_zero, List.set_cons_succ])
  refine wpAnyH_ready (rs := [8]) (by kernel_rfl) (by simp) ?_
  refine AllReadyH.cons (by simp only [List.getElem?_toArray, List.getElem?_cons_succ, List.getElem?_cons_zero]; rfl) (fun K hK => ?_) AllReadyH.nil
  go_simp
  refine (awake10_at _ ht).mono ?_
  rintro e w33 ⟨rfl, b33⟩
  go_wp2_with fail
  replace ht := ht.below b33
  replace r1 := r1.below b33
  replace r4 := r4.below b33
  replace BN12 := BN12.below b33
  replace BC12 := BC12.below b33
  replace BB := BB.trans (b33.mono BB.size)
  clear b33
  refine hK.out _ _ ?_ (fun hH3 => ?_)
  · exact ⟨BN12.v14.c0, BN12.v14.c1, BN12.v14.c2, BN12.v14.c3, BN12.v14.c4, BN12.v14.c5, BN12.v14.c6, BN12.v14.c7, BN12.v14.c8, BN12.v14.c9, BN12.v14.c10, BN12.v14.c11, BN12.v14.c12, BN12.v14.c13, BC12.v4.1, BC12.v4.2.1, BC12.v4.2.2.1, BC12.v4.2.2.2⟩
  clear hK K hH2
  (try simp only [Act.put, List.setIfInBounds_toArray, List.set_cons_zero, List.set_cons_succ])
  refine wpAnyH_take (i := 9) (v := ?_) (by simp only [List.getElem?_toArray, List.getElem?_cons_succ, List.getElem?_cons_zero]; rfl) (by kernel_rfl) (by kernel_rfl) (by kernel_rfl) (by exact fun _ _ _ h => h) (Or.inl ⟨by rfl, ?_⟩) (by assumption) ?_
  rotate_left
  · (intro w hSw; (try dsimp only at hSw); go_simp; (try with_reducible rfl))
  (try simp only [Act.put, List.setIfInBounds_toArray, List.set_cons_zero, List.set_cons_succ])
  refine wpAnyH_take (i := 10) (v := ?_) (by simp only [List.getElem?_toArray, List.getElem?_cons_succ, List.getElem?_cons_zero]; rfl) (by kernel_rfl) (by kernel_rfl) (by kernel_rfl) (by exact fun _ _ _ h => h) (Or.inl ⟨by rfl, ?_⟩) (by assumption) ?_
  rotate_left
  · (intro w hSw; (try dsimp only at hSw); go_simp; (try with_reducible rfl))
  (try simp only [Act.put, List.setIfInBounds_toArray, List.set_cons_zero, List.set_cons_succ])
  refine wpAnyH_done (by kernel_rfl) ?_ _
  clear hH3
  go_wp2
  go_ret
  exact ⟨rfl, BB⟩
theorem own : ownKnob Tryd.prog.godebug = none := by kernel_rfl
theorem laidOut : laidOutB Tryd.prog = true := by kernel_rfl

abbrev laid1 : List (String × DataW Unit) := [("math/bits.deBruijn64tab", Rows.laid_math_bits_deBruijn64tab)]
theorem gTab : Tryd.prog.globalNamed "math/bits.deBruijn64tab" = some 0 := by kernel_rfl
theorem gTabType : (Tryd.prog.globals[0]?).map (·.type) = some 110 := by kernel_rfl
theorem uTab : Tryd.prog.underlying 110 = some (.array 64 5) := by kernel_rfl
theorem uCell : Tryd.prog.underlying 5 = some (.int .u8) := by kernel_rfl
theorem cCell : Tryd.prog.cellsOf 5 = 1 := by kernel_rfl
theorem cTab : Tryd.prog.cellsOf 110 = 64 := by kernel_rfl
/-- The listed table lies in its cells. -/
theorem tab_of {W : World} (h : laidMetH Tryd.prog laid1 W) : Tab W := by
  rw [MakeChecks.laidMetH_plain _ _ _ (by kernel_rfl)] at h
  have hd : laid1 = [("math/bits.deBruijn64tab", Lib.tabData .u8 (Lib.deBruijn64tab.map fun (n : Nat) => Int.ofNat n))] := rfl
  rw [hd] at h
  have hT := Lib.tabIs_of_head gTab gTabType uTab uCell cCell cTab h
  intro i hi
  have hc := hT.cell gTab i (by rw [List.length_map]; exact hi)
  rw [hc]
  congr 2
  rw [List.getD_eq_getElem?_getD, List.getElem?_map, List.getD_eq_getElem?_getD]
  cases Lib.deBruijn64tab[i]? <;> rfl
/-- A start for the witness: the heap that the run of the program's own initialisers leaves. -/
noncomputable def startW (os : Os) : World := { World.holding Tryd.prog os ⟨#[], #[], []⟩ with heap := (varsWorld Tryd.prog 400 (varsId Tryd.prog) os (fun _ _ => 0)).heap }
theorem start_met (os : Os) (args : Array Value) : laidMetH Tryd.prog laid1 ((startW os).forCall (fun _ _ => 0) ⟨#[], args, []⟩).memory :=
  laidMetH_of_parts3 (fuel := 8) (laidMet_of_run' 8 (by kernel_rfl) (by kernel_rfl)) (by kernel_rfl) (by kernel_rfl)

set_option maxRecDepth 100000 in
theorem lifted (os : Os) (started : os.Started) (H : Type) (enc : TypeId × Value → H) :
    ReturnsInHanded {} Tryd.checked os 3 .any (fun w args => (Rows.routeLeftsSpec.pre enc Tryd.prog Tryd.f3 [] false w args ∧ laidMetH Tryd.prog laid1 w) ∧ sizedMet enc Tryd.prog Tryd.f3 (OpenSpec.ofChange Rows.routeLeftsSpec) false w args) (Rows.routeLeftsSpec.post enc Tryd.prog Tryd.f3 false true false false) := by
  refine returnsInHanded_of_change_and (C := Tryd.checked) (X := fun w _ => laidMetH Tryd.prog laid1 w) (fun _ _ _ hh h => h.of_heap hh) own started (by kernel_rfl) Tryd.func3
    (ChangeSpec.witness_shaped (enc := enc) (C := Tryd.checked) (os := os) (X := fun w _ => laidMetH Tryd.prog laid1 w) false (startW os) #[.agg #[.bool false, .int .i64 0, .bool false, .slice none 0 0, .slice none 0 0, .int .i64 0, .int .i64 0, .bool false, .bool false, .slice none 0 0, .slice none 0 0, .bool false, .slice none 0 0, .slice none 0 0], .agg #[.bool false, .bool false, .slice none 0 0, .slice none 0 0]] 8 rfl (World.shaped_of_RefB (by kernel_rfl) (by kernel_rfl)) (by kernel_rfl) (by kernel_rfl) (by kernel_rfl) (start_met os _)) ?_
  intro W base args ds gs before hval0 hW _ _ hL _
  have hval : ∀ (j : Nat) t v, Tryd.f3.params[j]? = some t → args[j]? = some v → Value.okWide Tryd.prog W .any base t v := hval0
  have hW' := hW
  obtain ⟨p, q, hA0, hV, rfl, hfz, hnd⟩ := hW
  have hA : DataW.TrodAll enc Tryd.prog W 0 (fun _ => true) true Tryd.f3.params.toList args.toList ds p := hA0
  rw [Tryd.params3] at hA hval
  obtain ⟨v0, vs0, d0, ds0, p0, q0, hargs, rfl, rfl, h0, r0⟩ := trodAll_cons hA
  obtain ⟨v1, vs1, d1, ds1, p1, q1, rfl, rfl, rfl, h1, r1⟩ := trodAll_cons r0
  obtain ⟨rfl, rfl, rfl⟩ := trodAll_nil r1
  obtain rfl : args = #[v0, v1] := by cases args; simp_all
  obtain ⟨rfl, rfl⟩ := trodVars_none hV
  have k0 := h0
  have lt0 : ∀ x ∈ p0, x.block < W.heap.size := by obtain ⟨m, hm⟩ := k0; exact DataW.trod_lt m _ _ _ hm
  obtain ⟨z0, w0⟩ := open_node 4 (hval 0 29 v0 rfl rfl) h0
  have k1 := h1
  have lt1 : ∀ x ∈ p1, x.block < W.heap.size := by obtain ⟨m, hm⟩ := k1; exact DataW.trod_lt m _ _ _ hm
  obtain ⟨ms1, neg1, ao1, n1, c1, bo1, m1, d1, f1, g1, rfl, w1, x1⟩ := open_cell (hval 1 31 v1 rfl rfl) h1
  clear hA0 hval0
  refine (walk _ _ _ _ _ _ _ _ _ _ _ _ W w0 w1 x1 (tab_of hL)).mono fun e W' ⟨he, bel⟩ => ?_
  subst he
  exact ⟨_, rfl, _, _, _, [], _, [], hW', trodAll_mk1 (shut_bool Tryd.underlying4 _), (trodAll_cons_mk (Below.trod laidOut (by kernel_rfl) (of_decide_eq_true (by kernel_rfl)) k0 bel lt0) (trodAll_cons_mk (Below.trod laidOut (by kernel_rfl) (of_decide_eq_true (by kernel_rfl)) k1 bel lt1) trodAll_mk0)), rfl, bel.frame _, fun h => by cases h⟩

theorem over : Rows.routeLeftsRow.holds Tryd.pinned (OpenSpec.ofChange Rows.routeLeftsSpec) :=
  OpenClaim.holds_of_wide 3 Tryd.f3 rfl rfl rfl rfl rfl rfl rfl ⟨rfl, rfl, rfl, rfl, rfl⟩ rfl rfl rfl rfl rfl (by kernel_rfl) Tryd.func3 (by kernel_rfl)
    (of_decide_eq_true (by kernel_rfl)) (by unfold Func.isWrapper; first | (rw [if_pos (by decide +kernel)]; kernel_rfl) | (rw [if_neg (by decide +kernel)]; exact ⟨rfl, rfl⟩))
    (fun os started H enc _ => lifted os started H enc)

end Go.Proofs.YtnnnkajomljdgaaDoor.routeLefts
namespace Go.Proofs.YtnnnkajomljdgaaDoor
/-- The statement: the row, tied to the text of the program. -/
theorem routeLefts_holds : Rows.RouteLeftsCardSaid :=
  Claim7.holds_tied_plain_at .later [] [.data] true (true, "7f59b3c6d3d5c89dd360b56c06d12b4c067ffb5db6b6c6a3c7f42a9b7179f86c") false
    routeLefts.over (fun _ h => by cases h) (by kernel_rfl) (fun _ h => by cases h) routeLefts_row_tie rfl ⟨rfl, rfl⟩ (by kernel_rfl) rfl
    (fun f fn hf hfn => by
      obtain rfl : f = 3 := Option.some.inj ((show Tryd.prog.funcNamed "dendron/dendronlaw10.RouteLefts" = some 3 by kernel_rfl).symm.trans hf) |>.symm
      obtain rfl : fn = Tryd.f3 := (Option.some.inj (Tryd.func3.symm.trans hfn)).symm
      exact ⟨by kernel_rfl, fun j t ht => by
        rw [Tryd.params3] at ht
        have hm : t ∈ [29, 31] := by simpa using Array.mem_of_getElem? ht
        have hall : ([29, 31].all fun u => !Tryd.prog.wantsStandIn u) = true := by kernel_rfl
        exact (show Tryd.prog.wantsStandIn t = false by simpa using List.all_eq_true.1 hall t hm)⟩)
    (by kernel_rfl)
end Go.Proofs.YtnnnkajomljdgaaDoor
