/-
 Proves that Predict and Each tell what any model of up to 6 trees of up to 15 nodes says of any row, in all and tree by tree, or why nothing, whatever comes in (the statement RoutePredicts, its tied card); the table of math/bits lies as the program's text lays it; no other condition.
-/
import Derived.Test.YtnnnkajomljdgaaGreatDoorJ88b258d9b9
import Derived.Test.YtnnnkajomljdgaaGreatDoorRows
import Derived.Test.YtnnnkajomljdgaaGreatDoorJ3a3a0d9ffb
import Derived.Test.YtnnnkajomljdgaaGreatDoorJ17ed8ac36d
import Derived.Test.YtnnnkajomljdgaaGreatDoorJ71637a62dd
import Derived.Test.YtnnnkajomljdgaaGreatDoorJaa87eaf44f
import Derived.WalkKit
import Derived.ProofKit
import Derived.OpenShut
import Derived.ShutString
import Derived.ChangeOld
import Derived.Below
import Derived.Test.YtnnnkajomljdgaaGreatDoorTie
import Derived.Test.YtnnnkajomljdgaaGreatDoorCards
import Derived.LaidByTextLater
import Derived.LaidHandle
import Derived.Lib.LaidTab
import Derived.SevenTiedAt
namespace Go.Proofs.YtnnnkajomljdgaaGreatDoor.routePredicts
open Go.ChangeShapes Go.WideShapes Go.ChangeAt Go.RowKit
open Go.ChangeMaps (open_string shut_string)
set_option linter.unusedVariables false
set_option linter.unusedSimpArgs false

theorem whyI_zero {F : Int} {k : Nat} {N : Nat → Nat} {T : Nat → Nat → Nd} {nr : Nat} (h : whyI F k N T nr = 0) : mayB F k N T = true ∧ (nr : Int) = F := by
 unfold whyI at h
 by_cases a : mayB F k N T = true
 ·rw [if_pos a] at h
  by_cases b : (nr : Int) = F
  ·exact ⟨a, b⟩
  ·rw [if_neg b] at h; omega
 ·rw [if_neg a] at h; omega
theorem _root_.Go.Proofs.YtnnnkajomljdgaaGreatDoor.MRow.sub {w : World} {k : Nat} {N : Nat → Nat} {T : Nat → Nat → Nd} {L : Nat} {a : Option Addr} {c : Nat} (h : MRow w (.slice a k c) k N T L) {i : Nat} (hi : i < k) : ∃ b off, a = some ⟨b, off, none⟩ ∧ MRow w (.slice (some ⟨b, off + i, none⟩) 1 (c - i)) 1 (fun _ => N i) (fun _ => T i) L := by
 obtain ⟨el, ⟨a', c', e, h1, h2, h3⟩, h4⟩ := h
 cases e
 obtain ⟨b, off, rfl, hc⟩ := h3 (by omega)
 refine ⟨b, off, rfl, fun _ => el i, ⟨_, _, rfl, by omega, by omega, fun _ => ⟨b, off + i, rfl, fun j hj l hl => ?_⟩⟩, fun _ _ => h4 i hi⟩
 have := hc i hi l hl
 rw [show off + i + j * 1 + l = off + i * 1 + l by omega]
 exact this
theorem _root_.Go.Proofs.YtnnnkajomljdgaaGreatDoor.FRow.cells {w : World} {v : Value} {n : Nat} {q : Nat → Rat} (h : FRow w v n q) (i : Nat) (hi : i < n) : ∃ b off c p a1 n1 c1 b1 m1 d1, v = .slice (some ⟨b, off, none⟩) n c ∧ w.cell? ⟨b, off + i * 3, none⟩ = some (.bool p) ∧ w.cell? ⟨b, off + i * 3 + 1, none⟩ = some (.slice a1 n1 c1) ∧ w.cell? ⟨b, off + i * 3 + 2, none⟩ = some (.slice b1 m1 d1) ∧ RepQ w (.agg #[.bool p, .slice a1 n1 c1, .slice b1 m1 d1]) (q i) := by
 obtain ⟨el, ⟨a, c, e, h1, h2, h3⟩, h4⟩ := h
 obtain ⟨b, off, rfl, hc⟩ := h3 (by omega)
 have hr := h4 i hi
 obtain ⟨p, a1, n1, c1, b1, m1, d1, he⟩ := hr.open
 rw [he] at hr
 simp only [Value.agg.injEq, Array.mk.injEq, List.cons.injEq, and_true] at he
 have c0 := hc i hi 0 (by omega)
 have c1' := hc i hi 1 (by omega)
 have c2 := hc i hi 2 (by omega)
 rw [he.1] at c0
 rw [he.2.1] at c1'
 rw [he.2.2] at c2
 exact ⟨b, off, c, p, a1, n1, c1, b1, m1, d1, e, c0, c1', c2, hr⟩

set_option maxRecDepth 100000 in
set_option maxHeartbeats 16000000 in
theorem walk (F : Int) (ao : Option Addr) (c k : Nat) (N : Nat → Nat) (T : Nat → Nat → Nd) (v2 : Value) (nr : Nat) (r : Nat → Cl) (w : World) (hF : I64 F) (hv : MRaw w (.slice ao k c) k N T 4) (hr : CRaw w v2 nr r 3) (ht : Tab w) :
  Calls Tryz.prog 4 #[.agg #[.int .i64 F, .slice ao k c], v2] w fun e w' => e = .returned (.bool true) ∧ Below w.heap.size w w' := by
 have BB : Below w.heap.size w w := Below.refl _ _
 obtain ⟨Wb0, hW0, hS0, hL0, VM⟩ := V2.lay w 27 (.int .i64 F) (.slice ao k c)
 have ht0 := ht
 replace ht := ht.below hL0
 replace BB := BB.trans (hL0.mono BB.size)
 clear hL0
 go_enter Tryz.func4, Tryz.ntmps4
 obtain ⟨VM_0, VM_1, VM_2, VM_3⟩ := id VM
 rw [hW0] at VM_0 VM_1 VM_2 VM_3
 go_wp2_with fail
 clear VM_0 VM_1 VM_2 VM_3
 rw [← hW0]
 clear hW0 hS0
 have hv1 := hv.below BB
 have hsz : Hid (w.heap.size < Wb0.heap.size) := VM.lt
 refine (few7_at F _ k N T _ hv1).mono ?_
 rintro e w1 ⟨r_, rfl, MO, b1⟩
 replace ht := ht.below b1
 replace VM := VM.below b1
 replace BB := BB.trans (b1.mono BB.size)
 clear b1
 obtain ⟨am, cm, rfl⟩ := MO.form
 clear hv1
 have hk6 : min k 6 ≤ 6 := Nat.min_le_right _ _
 generalize min k 6 = kk at *
 generalize (fun i => min (N i) 15) = NN at *
 obtain ⟨q1, q2, q3, q4⟩ := id VM
 have K1 : KeepQ IsLimb w1 (w1.setCell ⟨w.heap.size, 0, none⟩ (.int .i64 F)) := keepL_set q1 (limb_int _) _
 have K2 := keepL_set (cell_set_by (u := .int .i64 F) (j := 0) q2 (by omega)) (limb_slice _ _ _) (.slice am kk cm)
 have MO_n := (MO.set (a := ⟨w.heap.size, 0, none⟩) (by have := hsz.out; exact this) _ K1).set (a := ⟨w.heap.size, 1, none⟩) (by have := hsz.out; exact this) _ K2
 have VM_n := VM.same (.int .i64 F) (.slice am kk cm)
 have ht_n := (ht.keepL K1).keepL K2
 have BB_n := below_store2 (R := w.heap.size) BB (Nat.le_refl _) (.int .i64 F) (.slice am kk cm)
 obtain ⟨z1, z2, z3, z4⟩ := id VM_n
 go_wp2_with fail
 clear q1 q2 q3 q4 z1 z2 z3 z4 K1 K2 MO VM ht BB
 generalize (w1.setCell ⟨w.heap.size, 0, none⟩ (.int .i64 F)).setCell ⟨w.heap.size, 1, none⟩ (.slice am kk cm) = W3 at *
 have VM := VM_n
 have ht := ht_n
 have BB := BB_n
 have MR := MO_n.row
 clear VM_n ht_n BB_n MO_n ht0
 obtain ⟨ar, cr, rfl, hrc, hr63⟩ := hr.open
 have hr1 := hr.below BB
 refine (few9_at _ nr 70 r _ hr1 (by omega)).mono ?_
 rintro e w6 ⟨vu, rfl, CO, b6⟩
 replace ht := ht.below b6
 replace MR := MR.below b6
 replace VM := VM.below b6
 replace BB := BB.trans (b6.mono BB.size)
 clear b6
 obtain ⟨au, cu, rfl⟩ := CO.form
 have CR : CRow w6 _ (min nr 70) r 4 := CO.row.mono (by omega)
 clear CO hr hr1
 generalize min nr 70 = m at *
 obtain ⟨VM_0, VM_1, VM_2, VM_3⟩ := id VM
 go_wp2_with fail
 clear VM_0 VM_1 VM_2 VM_3
 by_cases h0 : whyI F kk NN T m = 0
 ·obtain ⟨hB, hmF⟩ := whyI_zero h0
  have HB : Hid (whyI (m : Int) kk NN T m = 0) := by rw [hmF]; exact h0
  subst hmF
  have HMY : Hid (∀ i, i < kk → MayT (m : Int) (T i) (NN i)) := (mayB_may hB).2.2.2
  clear hB h0 hF
  have HS : Hid (qsz (sumq (leafV T NN r) kk) ≤ 31) := by
   have h1 := qsz_sumq (leafV T NN r) 4 kk (leafV_sz MR (by omega) HMY.out r)
   show qsz _ ≤ 31
   omega
  have HS1 : Hid (∀ i, i < kk → qsz (leafV T NN r i) ≤ 4) := leafV_sz MR (by omega) HMY.out r
  refine (rpredict_yes (m : Int) _ _ kk m NN T r 4 _ MR CR ht (by omega) (by omega) HB.out (by omega) HMY.out (by omega)).mono ?_
  rintro e w7 ⟨v1, rfl, hx, b7⟩
  replace ht := ht.below b7
  replace MR := MR.below b7
  replace CR := CR.below b7
  replace VM := VM.below b7
  replace BB := BB.trans (b7.mono BB.size)
  clear b7
  obtain ⟨p1, a1, n1, c1, y1, m1, d1, rfl⟩ := hx.open
  have hZ31 : w.heap.size ≤ w7.heap.size := BB.size
  have hN31VM : w.heap.size ≠ w7.heap.size := Nat.ne_of_lt VM.lt
  obtain ⟨W31, hW31, hS31, hL31, VX⟩ := V3.lay w7 44 (.bool p1) (.slice a1 n1 c1) (.slice y1 m1 d1)
  replace ht := ht.below hL31
  replace MR := MR.below hL31
  replace CR := CR.below hL31
  replace hx := hx.below hL31
  replace VM := VM.below hL31
  replace BB := BB.trans (hL31.mono BB.size)
  clear hL31
  obtain ⟨VX_0, VX_1, VX_2, VX_3, VX_4, VX_5⟩ := id VX
  obtain ⟨VM_0, VM_1, VM_2, VM_3⟩ := id VM
  rw [hW31] at VX_0 VX_1 VX_2 VX_3 VX_4 VX_5 VM_0 VM_1 VM_2 VM_3
  go_wp2_with fail
  clear VX_0 VX_1 VX_2 VX_3 VX_4 VX_5 VM_0 VM_1 VM_2 VM_3
  rw [← hW31]
  generalize w7.heap.size = R31 at *
  clear hW31 hS31
  refine (reach_yes (m : Int) _ _ kk m NN T r 4 _ MR CR ht (by omega) (by omega) HB.out (by omega) HMY.out).mono ?_
  rintro e w8 ⟨v2, rfl, hl, b8⟩
  replace ht := ht.below b8
  replace MR := MR.below b8
  replace CR := CR.below b8
  replace hx := hx.below b8
  replace VM := VM.below b8
  replace VX := VX.below b8
  replace BB := BB.trans (b8.mono BB.size)
  clear b8
  obtain ⟨al, cl, rfl⟩ := hl.open
  obtain ⟨VM_0, VM_1, VM_2, VM_3⟩ := id VM
  go_wp2_with fail
  clear VM_0 VM_1 VM_2 VM_3
  refine (lwhy_at (m : Int) _ _ kk m NN T r 4 _ MR CR ht (by omega) (by omega)).mono ?_
  rintro e w9 ⟨rfl, b9⟩
  replace ht := ht.below b9
  replace MR := MR.below b9
  replace CR := CR.below b9
  replace hx := hx.below b9
  replace hl := hl.below b9
  replace VM := VM.below b9
  replace VX := VX.below b9
  replace BB := BB.trans (b9.mono BB.size)
  clear b9
  rw [HB.out]
  obtain ⟨VM_0, VM_1, VM_2, VM_3⟩ := id VM
  go_wp2_with fail
  clear VM_0 VM_1 VM_2 VM_3
  refine (rfits_at (m : Int) _ _ kk m NN T r 4 _ MR CR ht (by omega) (by omega)).mono ?_
  rintro e w10 ⟨rfl, b10⟩
  replace ht := ht.below b10
  replace MR := MR.below b10
  replace CR := CR.below b10
  replace hx := hx.below b10
  replace hl := hl.below b10
  replace VM := VM.below b10
  replace VX := VX.below b10
  replace BB := BB.trans (b10.mono BB.size)
  clear b10
  rw [HB.out]
  obtain ⟨VX_0, VX_1, VX_2, VX_3, VX_4, VX_5⟩ := id VX
  go_wp2
  clear VX_0 VX_1 VX_2 VX_3 VX_4 VX_5
  have hDr : Below w10.heap.size w10 w10.drew := (Below.refl _ _).drew
  replace ht := ht.below hDr
  replace MR := MR.below hDr
  replace CR := CR.below hDr
  replace hx := hx.below hDr
  replace hl := hl.below hDr
  replace VM := VM.below hDr
  replace VX := VX.below hDr
  replace BB := BB.trans (hDr.mono BB.size)
  clear hDr
  refine wp_region_held_drew (S := (fun w' => w'.cell? ⟨R31, 0, none⟩ = some (.bool p1) ∧ w'.cell? ⟨R31, 1, none⟩ = some (.slice a1 n1 c1) ∧ w'.cell? ⟨R31, 2, none⟩ = some (.slice y1 m1 d1) ∧ w'.cell? ⟨w.heap.size, 0, none⟩ = some (.int .i64 (m : Int)) ∧ w'.cell? ⟨w.heap.size, 1, none⟩ = some (.slice am kk cm))) (by kernel_rfl) ?_ (fun hHeld => ?_)
  ·exact ⟨VX.1, VX.2.1, VX.2.2.1, VM.1, VM.2.1⟩
  generalize w10.drew = W32 at *
  refine wpAnyH_take (i := 0) (v := ?_) (by simp only [xL1, xL2, xL3]; rfl) (by kernel_rfl) (by kernel_rfl) (by kernel_rfl) (by exact fun _ _ _ h => h) (Or.inl ⟨by rfl, ?_⟩) (by assumption) ?_
  rotate_left
  ·(intro w hSw; (try dsimp only at hSw); go_simp; (try with_reducible rfl))
  (try simp only [Act.put, xL4, xL5, xL6])
  refine wpAnyH_take (i := 1) (v := ?_) (by simp only [xL1, xL2, xL3]; rfl) (by kernel_rfl) (by kernel_rfl) (by kernel_rfl) (by exact fun _ _ _ h => h) (Or.inl ⟨by rfl, ?_⟩) (by assumption) ?_
  rotate_left
  ·(intro w hSw; (try dsimp only at hSw); go_simp; (try with_reducible rfl))
  (try simp only [Act.put, xL4, xL5, xL6])
  refine wpAnyH_take (i := 2) (v := ?_) (by simp only [xL1, xL2, xL3]; rfl) (by kernel_rfl) (by kernel_rfl) (by kernel_rfl) (by exact fun _ _ _ h => h) (Or.inl ⟨by rfl, ?_⟩) (by assumption) ?_
  rotate_left
  ·(intro w hSw; (try dsimp only at hSw); go_simp; (try with_reducible rfl))
  (try simp only [Act.put, xL4, xL5, xL6])
  refine wpAnyH_take (i := 3) (v := ?_) (by simp only [xL1, xL2, xL3]; rfl) (by kernel_rfl) (by kernel_rfl) (by kernel_rfl) (by exact fun _ _ _ h => h) (Or.inl ⟨by rfl, ?_⟩) (by assumption) ?_
  rotate_left
  ·(intro w hSw; (try dsimp only at hSw); go_simp; (try with_reducible rfl))
  (try simp only [Act.put, xL4, xL5, xL6])
  refine wpAnyH_take (i := 4) (v := ?_) (by simp only [xL1, xL2, xL3]; rfl) (by kernel_rfl) (by kernel_rfl) (by kernel_rfl) (by exact fun _ _ _ h => h) (Or.inl ⟨by rfl, ?_⟩) (by assumption) ?_
  rotate_left
  ·(intro w hSw; (try dsimp only at hSw); go_simp; (try with_reducible rfl))
  (try simp only [Act.put, xL4, xL5, xL6])
  refine wpAnyH_take (i := 5) (v := ?_) (by simp only [xL1, xL2, xL3]; rfl) (by kernel_rfl) (by kernel_rfl) (by kernel_rfl) (by exact fun _ _ _ h => h) (Or.inl ⟨by rfl, ?_⟩) (by assumption) ?_
  rotate_left
  ·(intro w hSw; (try dsimp only at hSw); go_simp; (try with_reducible rfl))
  (try simp only [Act.put, xL4, xL5, xL6])
  refine wpAnyH_take (i := 6) (v := ?_) (by simp only [xL1, xL2, xL3]; rfl) (by kernel_rfl) (by kernel_rfl) (by kernel_rfl) (by exact fun _ _ _ h => h) (Or.inl ⟨by rfl, ?_⟩) (by assumption) ?_
  rotate_left
  ·(intro w hSw; (try dsimp only at hSw); go_simp; (try with_reducible rfl))
  (try simp only [Act.put, xL4, xL5, xL6])
  refine wpAnyH_take (i := 7) (v := ?_) (by simp only [xL1, xL2, xL3]; rfl) (by kernel_rfl) (by kernel_rfl) (by kernel_rfl) (by exact fun _ _ _ h => h) (Or.inl ⟨by rfl, ?_⟩) (by assumption) ?_
  rotate_left
  ·(intro w hSw; (try dsimp only at hSw); go_simp; (try with_reducible rfl))
  (try simp only [Act.put, xL4, xL5, xL6])
  refine wpAnyH_take (i := 8) (v := ?_) (by simp only [xL1, xL2, xL3]; rfl) (by kernel_rfl) (by kernel_rfl) (by kernel_rfl) (by exact fun _ _ _ h => h) (Or.inl ⟨by rfl, ?_⟩) (by assumption) ?_
  rotate_left
  ·(intro w hSw; (try dsimp only at hSw); go_simp; (try with_reducible rfl))
  (try simp only [Act.put, xL4, xL5, xL6])
  refine wpAnyH_take (i := 9) (v := ?_) (by simp only [xL1, xL2, xL3]; rfl) (by kernel_rfl) (by kernel_rfl) (by kernel_rfl) (by exact fun _ _ _ h => h) (Or.inl ⟨by rfl, ?_⟩) (by assumption) ?_
  rotate_left
  ·(intro w hSw; (try dsimp only at hSw); go_simp; (try with_reducible rfl))
  (try simp only [Act.put, xL4, xL5, xL6])
  refine wpAnyH_ready (rs := [10]) (by kernel_rfl) (by simp) ?_
  refine AllReadyH.cons (by simp only [xL1, xL2, xL3]; rfl) (fun K hK => ?_) AllReadyH.nil
  go_simp
  refine (lpredict_at (m : Int) _ _ kk m NN T r 4 _ MR CR ht (by omega) (by omega) (by omega) HMY.out (by omega)).mono ?_
  rintro e w11 ⟨v3, rfl, h3, b11⟩
  obtain ⟨p3, a3, n3, c3, y3, m3, d3, rfl⟩ := h3.open
  go_wp2_with fail
  replace ht := ht.below b11
  replace MR := MR.below b11
  replace CR := CR.below b11
  replace hx := hx.below b11
  replace hl := hl.below b11
  replace VM := VM.below b11
  replace VX := VX.below b11
  replace BB := BB.trans (b11.mono BB.size)
  clear b11
  refine hK.out _ _ ?_ (fun hH1 => ?_)
  ·exact ⟨VX.1, VX.2.1, VX.2.2.1, VM.1, VM.2.1⟩
  clear hK K hHeld
  (try simp only [Act.put, xL4, xL5, xL6])
  refine wpAnyH_ready (rs := [11]) (by kernel_rfl) (by simp) ?_
  refine AllReadyH.cons (by simp only [xL1, xL2, xL3]; rfl) (fun K hK => ?_) AllReadyH.nil
  go_simp
  refine (is10_at _ _ _ 31 31 _ hx HS.out (h3.at 31 HS.out) (by omega) (by omega)).mono ?_
  rintro e w12 ⟨rfl, b12⟩
  go_wp2_with fail
  replace ht := ht.below b12
  replace MR := MR.below b12
  replace CR := CR.below b12
  replace hx := hx.below b12
  replace hl := hl.below b12
  replace h3 := h3.below b12
  replace VM := VM.below b12
  replace VX := VX.below b12
  replace BB := BB.trans (b12.mono BB.size)
  clear b12
  refine hK.out _ _ ?_ (fun hH2 => ?_)
  ·exact ⟨VX.1, VX.2.1, VX.2.2.1, VM.1, VM.2.1⟩
  clear hK K hH1
  (try simp only [Act.put, xL4, xL5, xL6])
  refine wpAnyH_take (i := 12) (v := ?_) (by simp only [xL1, xL2, xL3]; rfl) (by kernel_rfl) (by kernel_rfl) (by kernel_rfl) (by exact fun _ _ _ h => h) (Or.inl ⟨by rfl, ?_⟩) (by assumption) ?_
  rotate_left
  ·(intro w hSw; (try dsimp only at hSw); go_simp; (try with_reducible rfl))
  (try simp only [Act.put, xL4, xL5, xL6])
  refine wpAnyH_take (i := 13) (v := ?_) (by simp only [xL1, xL2, xL3]; rfl) (by kernel_rfl) (by kernel_rfl) (by kernel_rfl) (by exact fun _ _ _ h => h) (Or.inl ⟨by rfl, ?_⟩) (by assumption) ?_
  rotate_left
  ·(intro w hSw; (try dsimp only at hSw); go_simp; (try with_reducible rfl))
  (try simp only [Act.put, xL4, xL5, xL6])
  refine wpAnyH_take (i := 14) (v := ?_) (by simp only [xL1, xL2, xL3]; rfl) (by kernel_rfl) (by kernel_rfl) (by kernel_rfl) (by exact fun _ _ _ h => h) (Or.inl ⟨by rfl, ?_⟩) (by assumption) ?_
  rotate_left
  ·(intro w hSw; (try dsimp only at hSw); go_simp; (try with_reducible rfl))
  (try simp only [Act.put, xL4, xL5, xL6])
  refine wpAnyH_take (i := 15) (v := ?_) (by simp only [xL1, xL2, xL3]; rfl) (by kernel_rfl) (by kernel_rfl) (by kernel_rfl) (by exact fun _ _ _ h => h) (Or.inl ⟨by rfl, ?_⟩) (by assumption) ?_
  rotate_left
  ·(intro w hSw; (try dsimp only at hSw); go_simp; (try with_reducible rfl))
  (try simp only [Act.put, xL4, xL5, xL6])
  refine wpAnyH_take (i := 16) (v := ?_) (by simp only [xL1, xL2, xL3]; rfl) (by kernel_rfl) (by kernel_rfl) (by kernel_rfl) (by exact fun _ _ _ h => h) (Or.inl ⟨by rfl, ?_⟩) (by assumption) ?_
  rotate_left
  ·(intro w hSw; (try dsimp only at hSw); go_simp; (try with_reducible rfl))
  (try simp only [Act.put, xL4, xL5, xL6])
  refine wpAnyH_take (i := 17) (v := ?_) (by simp only [xL1, xL2, xL3]; rfl) (by kernel_rfl) (by kernel_rfl) (by kernel_rfl) (by exact fun _ _ _ h => h) (Or.inl ⟨by rfl, ?_⟩) (by assumption) ?_
  rotate_left
  ·(intro w hSw; (try dsimp only at hSw); go_simp; (try with_reducible rfl))
  (try simp only [Act.put, xL4, xL5, xL6])
  refine wpAnyH_take (i := 18) (v := ?_) (by simp only [xL1, xL2, xL3]; rfl) (by kernel_rfl) (by kernel_rfl) (by kernel_rfl) (by exact fun _ _ _ h => h) (Or.inl ⟨by rfl, ?_⟩) (by assumption) ?_
  rotate_left
  ·(intro w hSw; (try dsimp only at hSw); go_simp; (try with_reducible rfl))
  (try simp only [Act.put, xL4, xL5, xL6])
  refine wpAnyH_take (i := 19) (v := ?_) (by simp only [xL1, xL2, xL3]; rfl) (by kernel_rfl) (by kernel_rfl) (by kernel_rfl) (by exact fun _ _ _ h => h) (Or.inl ⟨by rfl, ?_⟩) (by assumption) ?_
  rotate_left
  ·(intro w hSw; (try dsimp only at hSw); go_simp; (try with_reducible rfl))
  (try simp only [Act.put, xL4, xL5, xL6])
  refine wpAnyH_take (i := 20) (v := ?_) (by simp only [xL1, xL2, xL3]; rfl) (by kernel_rfl) (by kernel_rfl) (by kernel_rfl) (by exact fun _ _ _ h => h) (Or.inl ⟨by rfl, ?_⟩) (by assumption) ?_
  rotate_left
  ·(intro w hSw; (try dsimp only at hSw); go_simp; (try with_reducible rfl))
  (try simp only [Act.put, xL4, xL5, xL6])
  refine wpAnyH_take (i := 21) (v := ?_) (by simp only [xL1, xL2, xL3]; rfl) (by kernel_rfl) (by kernel_rfl) (by kernel_rfl) (by exact fun _ _ _ h => h) (Or.inl ⟨by rfl, ?_⟩) (by assumption) ?_
  rotate_left
  ·(intro w hSw; (try dsimp only at hSw); go_simp; (try with_reducible rfl))
  (try simp only [Act.put, xL4, xL5, xL6])
  refine wpAnyH_done (by kernel_rfl) ?_ _
  clear hH2
  clear h3 hx
  obtain ⟨VM_0, VM_1, VM_2, VM_3⟩ := id VM
  go_wp2
  clear VM_0 VM_1 VM_2 VM_3
  have ht0 : Hid (Tab w12) := ht
  have MR0 : Hid (MRow w12 (.slice am kk cm) kk NN T 4) := MR
  have CR0 : Hid (CRow w12 (.slice au m cu) m r 4) := CR
  have hl0 : Hid (FRow w12 (.slice al kk cl) kk (leafV T NN r)) := hl
  have VM0 : Hid (V2 w12 w.heap.size (.int .i64 (m : Int)) (.slice am kk cm)) := VM
  clear ht MR CR hl VM VX
  go_loopw [10] (fun vi wr => ∃ i : Nat, i ≤ kk ∧ vi = .int .i64 (i : Int) ∧ Below w12.heap.size w12 wr) (fun vi _ => kk - (intOf vi).toNat)
  case atStart => exact ⟨0, by omega, rfl, Below.refl _ _⟩
  case round =>
   obtain ⟨i, hi, rfl, BL⟩ := hrel
   by_cases hlt : i < kk
   ·have g0 : (0 : Int) ≤ (i : Int) := by omega
    have g1_ : (i : Int) < (kk : Int) := by omega
    have wi : IntKind.i64.wrap ((i : Int) + 1) = (i : Int) + 1 := by rw [IntKind.wrap_i64]; omega
    have g4 : (i : Int) ≤ (i : Int) + 1 := by omega
    have g5 : (i : Int) + 1 ≤ (cm : Int) := by have := MR0.out.open; obtain ⟨_, _, e, h1, _⟩ := this; cases e; omega
    have g6 : ¬ cm = i := by omega
    have ht := ht0.out.below BL
    have MR := MR0.out.below BL
    have CR := CR0.out.below BL
    have hl := hl0.out.below BL
    have VM := VM0.out.below BL
    obtain ⟨b4, o4, c4, p4, a4, n4, c4_, y4, m4, d4, hv4, X0, X1, X2, r4⟩ := hl.cells i hlt
    cases hv4
    have C0 : Cel10 wr b4 (o4 + i * 3) _ := ⟨X0⟩
    have C1 : Cel10 wr b4 (o4 + i * 3 + 1) _ := ⟨X1⟩
    have C2 : Cel10 wr b4 (o4 + i * 3 + 2) _ := ⟨X2⟩
    clear X0 X1 X2 hl
    obtain ⟨bm, om, em, MS⟩ := MR.sub hlt
    cases em
    have HSI : Hid (sumq (leafV (fun _ => T i) (fun _ => NN i) r) 1 = leafV T NN r i) := by
     show 0 + leafV (fun _ => T i) (fun _ => NN i) r 0 = leafV T NN r i
     rw [Rat.zero_add]
     rfl
    have HMI : Hid (MayT (m : Int) (T i) (NN i)) := HMY.out i hlt
    clear MR
    have BB0 := BB
    clear BB
    have BB := BL
    clear BL
    go_wp2
    have hDr : Below wr.heap.size wr wr.drew := (Below.refl _ _).drew
    replace ht := ht.below hDr
    replace CR := CR.below hDr
    replace MS := MS.below hDr
    replace C0 := C0.below hDr
    replace C1 := C1.below hDr
    replace C2 := C2.below hDr
    replace r4 := r4.below hDr
    replace VM := VM.below hDr
    replace BB := BB.trans (hDr.mono BB.size)
    clear hDr
    refine wp_region_held_drew (S := (fun w' => w'.cell? ⟨w.heap.size, 0, none⟩ = some (.int .i64 (m : Int)) ∧ w'.cell? ⟨w.heap.size, 1, none⟩ = some (.slice (some ⟨bm, om, none⟩) kk cm) ∧ w'.cell? ⟨b4, o4 + i * 3, none⟩ = some (.bool p4) ∧ w'.cell? ⟨b4, o4 + i * 3 + 1, none⟩ = some (.slice a4 n4 c4_) ∧ w'.cell? ⟨b4, o4 + i * 3 + 2, none⟩ = some (.slice y4 m4 d4))) (by kernel_rfl) ?_ (fun hHeld => ?_)
    ·exact ⟨VM.1, VM.2.1, C0.cell, C1.cell, C2.cell⟩
    generalize wr.drew = W34 at *
    refine wpAnyH_take (i := 0) (v := ?_) (by simp only [xL1, xL2, xL3]; rfl) (by kernel_rfl) (by kernel_rfl) (by kernel_rfl) (by exact fun _ _ _ h => h) (Or.inl ⟨by rfl, ?_⟩) (by assumption) ?_
    rotate_left
    ·(intro w hSw; (try dsimp only at hSw); go_simp; (try with_reducible rfl))
    (try simp only [Act.put, xL4, xL5, xL6])
    refine wpAnyH_take (i := 1) (v := ?_) (by simp only [xL1, xL2, xL3]; rfl) (by kernel_rfl) (by kernel_rfl) (by kernel_rfl) (by exact fun _ _ _ h => h) (Or.inl ⟨by rfl, ?_⟩) (by assumption) ?_
    rotate_left
    ·(intro w hSw; (try dsimp only at hSw); go_simp; (try with_reducible rfl))
    (try simp only [Act.put, xL4, xL5, xL6])
    refine wpAnyH_take (i := 2) (v := ?_) (by simp only [xL1, xL2, xL3]; rfl) (by kernel_rfl) (by kernel_rfl) (by kernel_rfl) (by exact fun _ _ _ h => h) (Or.inl ⟨by rfl, ?_⟩) (by assumption) ?_
    rotate_left
    ·(intro w hSw; (try dsimp only at hSw); go_simp; (try with_reducible rfl))
    (try simp only [Act.put, xL4, xL5, xL6])
    refine wpAnyH_take (i := 3) (v := ?_) (by simp only [xL1, xL2, xL3]; rfl) (by kernel_rfl) (by kernel_rfl) (by kernel_rfl) (by exact fun _ _ _ h => h) (Or.inl ⟨by rfl, ?_⟩) (by assumption) ?_
    rotate_left
    ·(intro w hSw; (try dsimp only at hSw); go_simp; (try with_reducible rfl))
    (try simp only [Act.put, xL4, xL5, xL6])
    refine wpAnyH_take (i := 4) (v := ?_) (by simp only [xL1, xL2, xL3]; rfl) (by kernel_rfl) (by kernel_rfl) (by kernel_rfl) (by exact fun _ _ _ h => h) (Or.inl ⟨by rfl, ?_⟩) (by assumption) ?_
    rotate_left
    ·(intro w hSw; (try dsimp only at hSw); go_simp; (try with_reducible rfl))
    (try simp only [Act.put, xL4, xL5, xL6])
    refine wpAnyH_take (i := 5) (v := ?_) (by simp only [xL1, xL2, xL3]; rfl) (by kernel_rfl) (by kernel_rfl) (by kernel_rfl) (by exact fun _ _ _ h => h) (Or.inl ⟨by rfl, ?_⟩) (by assumption) ?_
    rotate_left
    ·(intro w hSw; (try dsimp only at hSw); go_simp; (try with_reducible rfl))
    (try simp only [Act.put, xL4, xL5, xL6])
    refine wpAnyH_take (i := 6) (v := ?_) (by simp only [xL1, xL2, xL3]; rfl) (by kernel_rfl) (by kernel_rfl) (by kernel_rfl) (by exact fun _ _ _ h => h) (Or.inl ⟨by rfl, ?_⟩) (by assumption) ?_
    rotate_left
    ·(intro w hSw; (try dsimp only at hSw); go_simp; (try with_reducible rfl))
    (try simp only [Act.put, xL4, xL5, xL6])
    refine wpAnyH_take (i := 7) (v := ?_) (by simp only [xL1, xL2, xL3]; rfl) (by kernel_rfl) (by kernel_rfl) (by kernel_rfl) (by exact fun _ _ _ h => h) (Or.inl ⟨by rfl, ?_⟩) (by assumption) ?_
    rotate_left
    ·(intro w hSw; (try dsimp only at hSw); go_simp; (try with_reducible rfl))
    (try simp only [Act.put, xL4, xL5, xL6])
    refine wpAnyH_take (i := 8) (v := ?_) (by simp only [xL1, xL2, xL3]; rfl) (by kernel_rfl) (by kernel_rfl) (by kernel_rfl) (by exact fun _ _ _ h => h) (Or.inl ⟨by rfl, ?_⟩) (by assumption) ?_
    rotate_left
    ·(intro w hSw; (try dsimp only at hSw); go_simp; (try with_reducible rfl))
    (try simp only [Act.put, xL4, xL5, xL6])
    refine wpAnyH_take (i := 9) (v := ?_) (by simp only [xL1, xL2, xL3]; rfl) (by kernel_rfl) (by kernel_rfl) (by kernel_rfl) (by exact fun _ _ _ h => h) (Or.inl ⟨by rfl, ?_⟩) (by assumption) ?_
    rotate_left
    ·(intro w hSw; (try dsimp only at hSw); go_simp; (try with_reducible rfl))
    (try simp only [Act.put, xL4, xL5, xL6])
    refine wpAnyH_take (i := 10) (v := ?_) (by simp only [xL1, xL2, xL3]; rfl) (by kernel_rfl) (by kernel_rfl) (by kernel_rfl) (by exact fun _ _ _ h => h) (Or.inl ⟨by rfl, ?_⟩) (by assumption) ?_
    rotate_left
    ·(intro w hSw; (try dsimp only at hSw); go_simp; (try with_reducible rfl))
    (try simp only [Act.put, xL4, xL5, xL6])
    refine wpAnyH_take (i := 11) (v := ?_) (by simp only [xL1, xL2, xL3]; rfl) (by kernel_rfl) (by kernel_rfl) (by kernel_rfl) (by exact fun _ _ _ h => h) (Or.inl ⟨by rfl, ?_⟩) (by assumption) ?_
    rotate_left
    ·(intro w hSw; (try dsimp only at hSw); go_simp; (try with_reducible rfl))
    (try simp only [Act.put, xL4, xL5, xL6])
    refine wpAnyH_take (i := 12) (v := ?_) (by simp only [xL1, xL2, xL3]; rfl) (by kernel_rfl) (by kernel_rfl) (by kernel_rfl) (by exact fun _ _ _ h => h) (Or.inl ⟨by rfl, ?_⟩) (by assumption) ?_
    rotate_left
    ·(intro w hSw; (try dsimp only at hSw); go_simp; (try with_reducible rfl))
    (try simp only [Act.put, xL4, xL5, xL6])
    refine wpAnyH_take (i := 13) (v := ?_) (by simp only [xL1, xL2, xL3]; rfl) (by kernel_rfl) (by kernel_rfl) (by kernel_rfl) (by exact fun _ _ _ h => h) (Or.inl ⟨by rfl, ?_⟩) (by assumption) ?_
    rotate_left
    ·(intro w hSw; (try dsimp only at hSw); go_simp; (try with_reducible rfl))
    (try simp only [Act.put, xL4, xL5, xL6])
    refine wpAnyH_ready (rs := [14]) (by kernel_rfl) (by simp) ?_
    refine AllReadyH.cons (by simp only [xL1, xL2, xL3]; rfl) (fun K hK => ?_) AllReadyH.nil
    go_simp
    refine (lpredict_at (m : Int) _ _ 1 m (fun _ => NN i) (fun _ => T i) r 4 _ MS CR ht (by omega) (by omega) (by omega) (fun _ _ => HMI.out) (by omega)).mono ?_
    rintro e w14 ⟨v3, rfl, h3, b14⟩
    rw [HSI.out] at h3
    obtain ⟨p3, a3, n3, c3, y3, m3, d3, rfl⟩ := h3.open
    go_wp2_with fail
    replace ht := ht.below b14
    replace CR := CR.below b14
    replace MS := MS.below b14
    replace C0 := C0.below b14
    replace C1 := C1.below b14
    replace C2 := C2.below b14
    replace r4 := r4.below b14
    replace VM := VM.below b14
    replace BB := BB.trans (b14.mono BB.size)
    clear b14
    refine hK.out _ _ ?_ (fun hH1 => ?_)
    ·exact ⟨VM.1, VM.2.1, C0.cell, C1.cell, C2.cell⟩
    clear hK K hHeld
    (try simp only [Act.put, xL4, xL5, xL6])
    refine wpAnyH_ready (rs := [15]) (by kernel_rfl) (by simp) ?_
    refine AllReadyH.cons (by simp only [xL1, xL2, xL3]; rfl) (fun K hK => ?_) AllReadyH.nil
    go_simp
    refine (is10_at _ _ _ 31 31 _ r4 (Nat.le_trans (HS1.out i hlt) (by omega)) (h3.at 31 (Nat.le_trans (HS1.out i hlt) (by omega))) (by omega) (by omega)).mono ?_
    rintro e w15 ⟨rfl, b15⟩
    go_wp2_with fail
    replace ht := ht.below b15
    replace CR := CR.below b15
    replace MS := MS.below b15
    replace C0 := C0.below b15
    replace C1 := C1.below b15
    replace C2 := C2.below b15
    replace r4 := r4.below b15
    replace h3 := h3.below b15
    replace VM := VM.below b15
    replace BB := BB.trans (b15.mono BB.size)
    clear b15
    refine hK.out _ _ ?_ (fun hH2 => ?_)
    ·exact ⟨VM.1, VM.2.1, C0.cell, C1.cell, C2.cell⟩
    clear hK K hH1
    (try simp only [Act.put, xL4, xL5, xL6])
    refine wpAnyH_take (i := 16) (v := ?_) (by simp only [xL1, xL2, xL3]; rfl) (by kernel_rfl) (by kernel_rfl) (by kernel_rfl) (by exact fun _ _ _ h => h) (Or.inl ⟨by rfl, ?_⟩) (by assumption) ?_
    rotate_left
    ·(intro w hSw; (try dsimp only at hSw); go_simp; (try with_reducible rfl))
    (try simp only [Act.put, xL4, xL5, xL6])
    refine wpAnyH_done (by kernel_rfl) ?_ _
    clear hH2
    go_wp2
    go_roundw
    case rel => exact ⟨i + 1, by omega, by go_num, BB⟩
    case measure => simp [intOf]; omega
   ·obtain rfl : i = kk := by omega
    have g1_ : ¬ (i : Int) < (i : Int) := by omega
    go_wp2_with fail
    refine (awake10_at _ (ht0.out.below BL)).mono ?_
    rintro e w9 ⟨rfl, b9⟩
    go_wp2
    go_ret
    exact ⟨rfl, (BB.trans (BL.mono BB.size)).trans (b9.mono (by have := BB.size; have := BL.size; omega))⟩
 ·obtain ⟨e1, he1⟩ : ∃ e1, whyI F kk NN T m = e1 := ⟨_, rfl⟩
  have HE : Hid (whyI F kk NN T m = e1) := he1
  have HN : Hid (whyI F kk NN T m ≠ 0) := h0
  rw [he1] at h0
  clear he1
  have g2 : (e1 != 0) = true := by simpa using h0
  have g3 : decide (e1 = 0) = false := decide_eq_false h0
  refine (rpredict_no F _ _ kk m NN T r 4 _ MR CR ht (by omega) (by omega) HN.out).mono ?_
  rintro e w7 ⟨rfl, b7⟩
  replace ht := ht.below b7
  replace MR := MR.below b7
  replace CR := CR.below b7
  replace VM := VM.below b7
  replace BB := BB.trans (b7.mono BB.size)
  clear b7
  rw [HE.out]
  have hZ31 : w.heap.size ≤ w7.heap.size := BB.size
  have hN31VM : w.heap.size ≠ w7.heap.size := Nat.ne_of_lt VM.lt
  obtain ⟨W31, hW31, hS31, hL31, VX⟩ := V3.lay w7 44 (.bool false) (.slice none 0 0) (.slice none 0 0)
  replace ht := ht.below hL31
  replace MR := MR.below hL31
  replace CR := CR.below hL31
  replace VM := VM.below hL31
  replace BB := BB.trans (hL31.mono BB.size)
  clear hL31
  obtain ⟨VX_0, VX_1, VX_2, VX_3, VX_4, VX_5⟩ := id VX
  obtain ⟨VM_0, VM_1, VM_2, VM_3⟩ := id VM
  rw [hW31] at VX_0 VX_1 VX_2 VX_3 VX_4 VX_5 VM_0 VM_1 VM_2 VM_3
  go_wp2_with fail
  clear VX_0 VX_1 VX_2 VX_3 VX_4 VX_5 VM_0 VM_1 VM_2 VM_3
  rw [← hW31]
  generalize w7.heap.size = R31 at *
  clear hW31 hS31
  refine (reach_no F _ _ kk m NN T r 4 _ MR CR ht (by omega) (by omega) HN.out).mono ?_
  rintro e w8 ⟨rfl, b8⟩
  replace ht := ht.below b8
  replace MR := MR.below b8
  replace CR := CR.below b8
  replace VM := VM.below b8
  replace VX := VX.below b8
  replace BB := BB.trans (b8.mono BB.size)
  clear b8
  rw [HE.out]
  obtain ⟨VM_0, VM_1, VM_2, VM_3⟩ := id VM
  go_wp2_with fail
  clear VM_0 VM_1 VM_2 VM_3
  refine (lwhy_at F _ _ kk m NN T r 4 _ MR CR ht (by omega) (by omega)).mono ?_
  rintro e w9 ⟨rfl, b9⟩
  replace ht := ht.below b9
  replace MR := MR.below b9
  replace CR := CR.below b9
  replace VM := VM.below b9
  replace VX := VX.below b9
  replace BB := BB.trans (b9.mono BB.size)
  clear b9
  rw [HE.out]
  obtain ⟨VM_0, VM_1, VM_2, VM_3⟩ := id VM
  go_wp2_with fail
  clear VM_0 VM_1 VM_2 VM_3
  refine (rfits_at F _ _ kk m NN T r 4 _ MR CR ht (by omega) (by omega)).mono ?_
  rintro e w10 ⟨rfl, b10⟩
  replace ht := ht.below b10
  replace MR := MR.below b10
  replace CR := CR.below b10
  replace VM := VM.below b10
  replace VX := VX.below b10
  replace BB := BB.trans (b10.mono BB.size)
  clear b10
  rw [HE.out]
  obtain ⟨VX_0, VX_1, VX_2, VX_3, VX_4, VX_5⟩ := id VX
  go_wp2_with fail
  clear VX_0 VX_1 VX_2 VX_3 VX_4 VX_5
  refine (awake10_at _ ht).mono ?_
  rintro e w11 ⟨rfl, b11⟩
  replace ht := ht.below b11
  replace MR := MR.below b11
  replace CR := CR.below b11
  replace VM := VM.below b11
  replace VX := VX.below b11
  replace BB := BB.trans (b11.mono BB.size)
  clear b11
  go_wp2
  go_ret
  exact ⟨rfl, BB⟩
theorem own : ownKnob Tryz.prog.godebug = none := by kernel_rfl
theorem laidOut : laidOutB Tryz.prog = true := by kernel_rfl

abbrev laid1 : List (String × DataW Unit) := [("math/bits.deBruijn64tab", Rows.laid_math_bits_deBruijn64tab)]
theorem gTab : Tryz.prog.globalNamed "math/bits.deBruijn64tab" = some 0 := by kernel_rfl
theorem gTabType : (Tryz.prog.globals[0]?).map (·.type) = some 170 := by kernel_rfl
theorem uTab : Tryz.prog.underlying 170 = some (.array 64 5) := by kernel_rfl
theorem uCell : Tryz.prog.underlying 5 = some (.int .u8) := by kernel_rfl
theorem cCell : Tryz.prog.cellsOf 5 = 1 := by kernel_rfl
theorem cTab : Tryz.prog.cellsOf 170 = 64 := by kernel_rfl
/-- The listed table lies in its cells. -/
theorem tab_of {W : World} (h : laidMetH Tryz.prog laid1 W) : Tab W := by
 rw [MakeChecks.laidMetH_plain _ _ _ (by kernel_rfl)] at h
 have hd : laid1 = [("math/bits.deBruijn64tab", Lib.tabData .u8 (Lib.deBruijn64tab.map fun (n : Nat) => Int.ofNat n))] := rfl
 rw [hd] at h
 have hT := Lib.tabIs_of_head gTab gTabType uTab uCell cCell cTab h
 intro i hi
 have hc := hT.cell gTab i (by rw [List.length_map]; exact hi)
 rw [hc]
 congr 2
 rw [List.getD_eq_getElem?_getD, List.getElem?_map, List.getD_eq_getElem?_getD]
 cases Lib.deBruijn64tab[i]? <;> rfl
/-- A start for the witness: the heap that the run of the program's own initialisers leaves. -/
noncomputable def startW (os : Os) : World := { World.holding Tryz.prog os ⟨#[], #[], []⟩ with heap := (varsWorld Tryz.prog 400 (varsId Tryz.prog) os (fun _ _ => 0)).heap }
theorem start_met (os : Os) (args : Array Value) : laidMetH Tryz.prog laid1 ((startW os).forCall (fun _ _ => 0) ⟨#[], args, []⟩).memory :=
 laidMetH_of_parts3 (fuel := 8) (laidMet_of_run' 8 (by kernel_rfl) (by kernel_rfl)) (by kernel_rfl) (by kernel_rfl)

set_option maxRecDepth 100000 in
theorem lifted (os : Os) (started : os.Started) (H : Type) (enc : TypeId × Value → H) :
  ReturnsInHanded {} Tryz.checked os 4 .any (fun w args => (Rows.routePredictsSpec.pre enc Tryz.prog Tryz.f4 [] false w args ∧ laidMetH Tryz.prog laid1 w) ∧ sizedMet enc Tryz.prog Tryz.f4 (OpenSpec.ofChange Rows.routePredictsSpec) false w args) (Rows.routePredictsSpec.post enc Tryz.prog Tryz.f4 false true false false) := by
 refine returnsInHanded_of_change_and (C := Tryz.checked) (X := fun w _ => laidMetH Tryz.prog laid1 w) (fun _ _ _ hh h => h.of_heap hh) own started (by kernel_rfl) Tryz.func4
  (ChangeSpec.witness_shaped (enc := enc) (C := Tryz.checked) (os := os) (X := fun w _ => laidMetH Tryz.prog laid1 w) false (startW os) #[.agg #[.int .i64 0, .slice none 0 0], .slice none 0 0] 8 rfl (World.shaped_of_RefB (by kernel_rfl) (by kernel_rfl)) (by kernel_rfl) (by kernel_rfl) (by kernel_rfl) (start_met os _)) ?_
 intro W base args ds gs before hval0 hW _ _ hL _
 have hval : ∀ (j : Nat) t v, Tryz.f4.params[j]? = some t → args[j]? = some v → Value.okWide Tryz.prog W .any base t v := hval0
 have hW' := hW
 obtain ⟨p, q, hA0, hV, rfl, hfz, hnd⟩ := hW
 have hA : DataW.TrodAll enc Tryz.prog W 0 (fun _ => true) true Tryz.f4.params.toList args.toList ds p := hA0
 rw [Tryz.params4] at hA hval
 obtain ⟨v0, vs0, d0, ds0, p0, q0, hargs, rfl, rfl, h0, r0⟩ := trodAll_cons hA
 obtain ⟨v1, vs1, d1, ds1, p1, q1, rfl, rfl, rfl, h1, r1⟩ := trodAll_cons r0
 obtain ⟨rfl, rfl, rfl⟩ := trodAll_nil r1
 obtain rfl : args = #[v0, v1] := by cases args; simp_all
 obtain ⟨rfl, rfl⟩ := trodVars_none hV
 have k0 := h0
 have lt0 : ∀ x ∈ p0, x.block < W.heap.size := by obtain ⟨m, hm⟩ := k0; exact DataW.trod_lt m _ _ _ hm
 obtain ⟨F0, a0, c0, n0, N0, z0, rfl, f0, w0⟩ := open_model 4 (hval 0 27 v0 rfl rfl) h0
 have k1 := h1
 have lt1 : ∀ x ∈ p1, x.block < W.heap.size := by obtain ⟨m, hm⟩ := k1; exact DataW.trod_lt m _ _ _ hm
 obtain ⟨n1, z1, w1⟩ := open_cells 3 (hval 1 23 v1 rfl rfl) h1
 clear hA0 hval0
 refine (walk _ _ _ _ _ _ _ _ _ W f0 w0 w1 (tab_of hL)).mono fun e W' ⟨he, bel⟩ => ?_
 subst he
 exact ⟨_, rfl, _, _, _, [], _, [], hW', trodAll_mk1 (shut_bool Tryz.underlying4 _), (trodAll_cons_mk (Below.trod laidOut (by kernel_rfl) (of_decide_eq_true (by kernel_rfl)) k0 bel lt0) (trodAll_cons_mk (Below.trod laidOut (by kernel_rfl) (of_decide_eq_true (by kernel_rfl)) k1 bel lt1) trodAll_mk0)), rfl, bel.frame _, fun h => by cases h⟩

theorem over : Rows.routePredictsRow.holds Tryz.pinned (OpenSpec.ofChange Rows.routePredictsSpec) :=
 OpenClaim.holds_of_wide 4 Tryz.f4 rfl rfl rfl rfl rfl rfl rfl ⟨rfl, rfl, rfl, rfl, rfl⟩ rfl rfl rfl rfl rfl (by kernel_rfl) Tryz.func4 (by kernel_rfl)
  (of_decide_eq_true (by kernel_rfl)) (by unfold Func.isWrapper; first | (rw [if_pos (by decide +kernel)]; kernel_rfl) | (rw [if_neg (by decide +kernel)]; exact ⟨rfl, rfl⟩))
  (fun os started H enc _ => lifted os started H enc)

end Go.Proofs.YtnnnkajomljdgaaGreatDoor.routePredicts
namespace Go.Proofs.YtnnnkajomljdgaaGreatDoor
/-- The statement: the row, tied to the text of the program. -/
theorem routePredicts_holds : Rows.RoutePredictsCardSaid :=
 Claim7.holds_tied_plain_at .later [] [.data] true (true, "60721c48722a9e8b562d581eaa8eecad4e5ec86f465869b22e499f0c68cb6c50") false
  routePredicts.over (fun _ h => by cases h) (by kernel_rfl) (fun _ h => by cases h) routePredicts_row_tie rfl ⟨rfl, rfl⟩ (by kernel_rfl) rfl
  (fun f fn hf hfn => by
   obtain rfl : f = 4 := Option.some.inj ((show Tryz.prog.funcNamed "dendron/dendronlaw10.RoutePredicts" = some 4 by kernel_rfl).symm.trans hf) |>.symm
   obtain rfl : fn = Tryz.f4 := (Option.some.inj (Tryz.func4.symm.trans hfn)).symm
   exact ⟨by kernel_rfl, fun j t ht => by
    rw [Tryz.params4] at ht
    have hm : t ∈ [27, 23] := by simpa using Array.mem_of_getElem? ht
    have hall : ([27, 23].all fun u => !Tryz.prog.wantsStandIn u) = true := by kernel_rfl
    exact (show Tryz.prog.wantsStandIn t = false by simpa using List.all_eq_true.1 hall t hm)⟩)
  (by kernel_rfl)
end Go.Proofs.YtnnnkajomljdgaaGreatDoor
