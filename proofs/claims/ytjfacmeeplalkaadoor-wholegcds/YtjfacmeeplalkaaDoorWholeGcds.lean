/-
  Proves that Gcd answers the greatest number that divides any two whole numbers of up to 6 limbs each, and Bezout the same and two numbers of which that is a sum of multiples, whatever comes in (the statement WholeGcds, its tied card); the table of math/bits lies as the program's text lays it; no other condition.
-/
import Derived.Test.YtjfacmeeplalkaaDoorRows
import Derived.Test.YtjfacmeeplalkaaDoorJ29
import Derived.Test.YtjfacmeeplalkaaDoorJ21
import Derived.Test.YtjfacmeeplalkaaDoorJ30
import Derived.Test.YtjfacmeeplalkaaDoorJ31
import Derived.WalkKit
import Derived.ProofKit
import Derived.OpenShut
import Derived.ShutString
import Derived.ChangeOld
import Derived.Below
import Derived.Test.YtjfacmeeplalkaaDoorTie
import Derived.Test.YtjfacmeeplalkaaDoorCards
import Derived.LaidByTextLater
import Derived.LaidHandle
import Derived.Lib.LaidTab
import Derived.SevenTiedAt
namespace Go.Proofs.YtjfacmeeplalkaaDoor.wholeGcds
open Go.ChangeShapes Go.WideShapes Go.ChangeAt Go.RowKit
open Go.ChangeMaps (open_string shut_string)
set_option linter.unusedVariables false
set_option linter.unusedSimpArgs false

set_option linter.unusedSimpArgs false
set_option maxRecDepth 20000 in
set_option maxHeartbeats 8000000 in
theorem walk (p : Bool) (s : Value) (n0 : Nat) (f : Nat → Int) (q : Bool) (t : Value) (m0 : Nat) (g : Nat → Int) (w : World) (hs : Raw w s n0 f) (ht : Raw w t m0 g) (hT : Tab w) :
    Calls Tryd.prog 3 #[.agg #[.bool p, s], .agg #[.bool q, t]] w fun e w' => e = .returned (.bool true) ∧ Below w.heap.size w w' := by
  obtain ⟨ao0, c0, rfl⟩ : ∃ ao c, s = .slice ao n0 c := by obtain ⟨ao, c, h, _⟩ := hs; exact ⟨ao, c, h⟩
  obtain ⟨bo0, d0, rfl⟩ : ∃ ao c, t = .slice ao m0 c := by obtain ⟨ao, c, h, _⟩ := ht; exact ⟨ao, c, h⟩
  have BB : Below w.heap.size w w := Below.refl _ _
  obtain ⟨Wb0, hW0, hS0, hL0, VA⟩ := V2.lay w 25 (.bool p) (.slice ao0 n0 c0)
  replace hs := hs.below hL0
  replace ht := ht.below hL0
  replace hT := hT.below hL0
  replace BB := BB.trans (hL0.mono BB.size)
  clear hL0
  obtain ⟨Wb1, hW1, hS1, hL1, VB⟩ := V2.lay Wb0 25 (.bool q) (.slice bo0 m0 d0)
  rw [hS0] at VB hS1
  replace hs := hs.below hL1
  replace ht := ht.below hL1
  replace hT := hT.below hL1
  replace VA := VA.below hL1
  replace BB := BB.trans (hL1.mono BB.size)
  clear hL1
  go_enter Tryd.func3, Tryd.ntmps3
  go_wp2_with fail
  rw [← hW0]
  rw [← hW1]
  clear hW0 hW1 hS0 hS1
  refine (wfew_any _ _ _ 6 _ _ hs (by omega)).mono ?_
  rintro e w1 ⟨ao, c, rfl, hu, uf, b1⟩
  replace hs := hs.below b1
  replace ht := ht.below b1
  replace hT := hT.below b1
  replace VA := VA.below b1
  replace VB := VB.below b1
  replace BB := BB.trans (b1.mono BB.size)
  clear b1
  have hn : min n0 6 ≤ 6 := Nat.min_le_right _ _
  generalize min n0 6 = n at *
  clear hs
  have hKp := VA.keepJ (.bool p) (.slice ao n c)
  have VB_n := VB.other (R := w.heap.size) (by omega) (.bool p) (.slice ao n c)
  have VA_n := VA.same (.bool p) (.slice ao n c)
  have ht_n := ht.keep hKp
  have hT_n := hT.keep hKp
  have hu_n := hu.keep hKp
  have BB_n := below_store2 (R := w.heap.size) BB (by omega) (.bool p) (.slice ao n c)
  clear hKp
  obtain ⟨VA_0, VA_1, VA_2, VA_3⟩ := id VA
  obtain ⟨VB_n0, VB_n1, VB_n2, VB_n3⟩ := id VB_n
  go_wp2_with fail
  clear VA_0 VA_1 VA_2 VA_3 VB_n0 VB_n1 VB_n2 VB_n3
  clear BB ht hT hu VA VB
  generalize (w1.setCell ⟨w.heap.size, 0, none⟩ (.bool p)).setCell ⟨w.heap.size, 1, none⟩ (.slice ao n c) = W1 at *
  have BB := BB_n
  have ht := ht_n
  have hT := hT_n
  have hu := hu_n
  have VA := VA_n
  have VB := VB_n
  clear BB_n ht_n hT_n hu_n VA_n VB_n
  refine (wfew_any _ _ _ 6 _ _ ht (by omega)).mono ?_
  rintro e w2 ⟨bo, d, rfl, hv, vf, b2⟩
  replace ht := ht.below b2
  replace hT := hT.below b2
  replace hu := hu.below b2
  replace VA := VA.below b2
  replace VB := VB.below b2
  replace BB := BB.trans (b2.mono BB.size)
  clear b2
  have hm : min m0 6 ≤ 6 := Nat.min_le_right _ _
  generalize min m0 6 = m at *
  clear ht
  have hKp := VB.keepJ (.bool q) (.slice bo m d)
  have VA_n := VA.other (R := w.heap.size + 1) (by omega) (.bool q) (.slice bo m d)
  have VB_n := VB.same (.bool q) (.slice bo m d)
  have hT_n := hT.keep hKp
  have hu_n := hu.keep hKp
  have hv_n := hv.keep hKp
  have BB_n := below_store2 (R := w.heap.size + 1) BB (by omega) (.bool q) (.slice bo m d)
  clear hKp
  obtain ⟨VB_0, VB_1, VB_2, VB_3⟩ := id VB
  obtain ⟨VA_n0, VA_n1, VA_n2, VA_n3⟩ := id VA_n
  go_wp2_with fail
  clear VB_0 VB_1 VB_2 VB_3 VA_n0 VA_n1 VA_n2 VA_n3
  clear BB hT hu hv VA VB
  generalize (w2.setCell ⟨w.heap.size + 1, 0, none⟩ (.bool q)).setCell ⟨w.heap.size + 1, 1, none⟩ (.slice bo m d) = W2 at *
  have BB := BB_n
  have hT := hT_n
  have hu := hu_n
  have hv := hv_n
  have VA := VA_n
  have VB := VB_n
  clear BB_n hT_n hu_n hv_n VA_n VB_n
  have Ix : IntAt W2 (.agg #[.bool p, .slice ao n c]) (zof p (num f n)) 6 := ⟨_, _, _, _, _, rfl, hu, uf, rfl, hn⟩
  have Iy : IntAt W2 (.agg #[.bool q, .slice bo m d]) (zof q (num g m)) 6 := ⟨_, _, _, _, _, rfl, hv, vf, rfl, hm⟩
  clear hu hv
  generalize zof p (num f n) = x at *
  generalize zof q (num g m) = y at *
  refine (rfrom_any _ _ _ _ Ix (by omega)).mono ?_
  rintro e w3 ⟨vx, rfl, Jx, b3⟩
  replace hT := hT.below b3
  replace Ix := Ix.below b3
  replace Iy := Iy.below b3
  replace VA := VA.below b3
  replace VB := VB.below b3
  replace BB := BB.trans (b3.mono BB.size)
  clear b3
  obtain ⟨px, aox, nx, cx, rfl⟩ := Jx.open
  have hZ3 : w.heap.size ≤ w3.heap.size := BB.size
  have hN3VA : w.heap.size ≠ w3.heap.size := Nat.ne_of_lt VA.lt
  have hN3VB : w.heap.size + 1 ≠ w3.heap.size := Nat.ne_of_lt VB.lt
  obtain ⟨W3, hW3, hS3, hL3, VX⟩ := V2.lay w3 30 (.bool px) (.slice aox nx cx)
  replace hT := hT.below hL3
  replace Ix := Ix.below hL3
  replace Iy := Iy.below hL3
  replace Jx := Jx.below hL3
  replace VA := VA.below hL3
  replace VB := VB.below hL3
  replace BB := BB.trans (hL3.mono BB.size)
  clear hL3
  obtain ⟨VB_0, VB_1, VB_2, VB_3⟩ := id VB
  rw [hW3] at VB_0 VB_1 VB_2 VB_3
  go_wp2_with fail
  clear VB_0 VB_1 VB_2 VB_3
  rw [← hW3]
  generalize w3.heap.size = R3 at *
  clear hW3 hS3
  refine (rfrom_any _ _ _ _ Iy (by omega)).mono ?_
  rintro e w4 ⟨vy, rfl, Jy, b4⟩
  replace hT := hT.below b4
  replace Ix := Ix.below b4
  replace Iy := Iy.below b4
  replace Jx := Jx.below b4
  replace VA := VA.below b4
  replace VB := VB.below b4
  replace VX := VX.below b4
  replace BB := BB.trans (b4.mono BB.size)
  clear b4
  obtain ⟨py, aoy, ny, cy, rfl⟩ := Jy.open
  have hZ4 : w.heap.size ≤ w4.heap.size := BB.size
  have hN4VA : w.heap.size ≠ w4.heap.size := Nat.ne_of_lt VA.lt
  have hN4VB : w.heap.size + 1 ≠ w4.heap.size := Nat.ne_of_lt VB.lt
  have hN4VX : R3 ≠ w4.heap.size := Nat.ne_of_lt VX.lt
  obtain ⟨W4, hW4, hS4, hL4, VY⟩ := V2.lay w4 30 (.bool py) (.slice aoy ny cy)
  replace hT := hT.below hL4
  replace Ix := Ix.below hL4
  replace Iy := Iy.below hL4
  replace Jx := Jx.below hL4
  replace Jy := Jy.below hL4
  replace VA := VA.below hL4
  replace VB := VB.below hL4
  replace VX := VX.below hL4
  replace BB := BB.trans (hL4.mono BB.size)
  clear hL4
  obtain ⟨VX_0, VX_1, VX_2, VX_3⟩ := id VX
  rw [hW4] at VX_0 VX_1 VX_2 VX_3
  go_wp2_with fail
  clear VX_0 VX_1 VX_2 VX_3
  rw [← hW4]
  generalize w4.heap.size = R4 at *
  clear hW4 hS4
  have lx := Ix.nl
  have ly := Iy.nl
  have Dx := Jx.num
  have Dy := Jy.num
  refine (rgcd_any _ _ _ _ _ Dx Dy (nlj6 lx) (nlj6 ly)).mono ?_
  rintro e w5 ⟨sg, rfl, Dg, b5⟩
  replace hT := hT.below b5
  replace Ix := Ix.below b5
  replace Iy := Iy.below b5
  replace Jx := Jx.below b5
  replace Jy := Jy.below b5
  replace Dx := Dx.below b5
  replace Dy := Dy.below b5
  replace VA := VA.below b5
  replace VB := VB.below b5
  replace VX := VX.below b5
  replace VY := VY.below b5
  replace BB := BB.trans (b5.mono BB.size)
  clear b5
  go_wp2_with fail
  refine (rmake_any _ _ _ _ Dg).mono ?_
  rintro e w6 ⟨vg, rfl, Jg, b6⟩
  replace hT := hT.below b6
  replace Ix := Ix.below b6
  replace Iy := Iy.below b6
  replace Jx := Jx.below b6
  replace Jy := Jy.below b6
  replace Dx := Dx.below b6
  replace Dy := Dy.below b6
  replace Dg := Dg.below b6
  replace VA := VA.below b6
  replace VB := VB.below b6
  replace VX := VX.below b6
  replace VY := VY.below b6
  replace BB := BB.trans (b6.mono BB.size)
  clear b6
  rw [zof_false] at Jg
  obtain ⟨pg, aog, ng, cg, rfl⟩ := Jg.open
  clear Dx Dy Dg
  have hZ5 : w.heap.size ≤ w6.heap.size := BB.size
  have hN5VA : w.heap.size ≠ w6.heap.size := Nat.ne_of_lt VA.lt
  have hN5VB : w.heap.size + 1 ≠ w6.heap.size := Nat.ne_of_lt VB.lt
  have hN5VX : R3 ≠ w6.heap.size := Nat.ne_of_lt VX.lt
  have hN5VY : R4 ≠ w6.heap.size := Nat.ne_of_lt VY.lt
  obtain ⟨W5, hW5, hS5, hL5, VG⟩ := V2.lay w6 30 (.bool pg) (.slice aog ng cg)
  replace hT := hT.below hL5
  replace Ix := Ix.below hL5
  replace Iy := Iy.below hL5
  replace Jx := Jx.below hL5
  replace Jy := Jy.below hL5
  replace Jg := Jg.below hL5
  replace VA := VA.below hL5
  replace VB := VB.below hL5
  replace VX := VX.below hL5
  replace VY := VY.below hL5
  replace BB := BB.trans (hL5.mono BB.size)
  clear hL5
  obtain ⟨VA_0, VA_1, VA_2, VA_3⟩ := id VA
  obtain ⟨VB_0, VB_1, VB_2, VB_3⟩ := id VB
  rw [hW5] at VA_0 VA_1 VA_2 VA_3 VB_0 VB_1 VB_2 VB_3
  go_wp2_with fail
  clear VA_0 VA_1 VA_2 VA_3 VB_0 VB_1 VB_2 VB_3
  rw [← hW5]
  generalize w6.heap.size = R5 at *
  clear hW5 hS5
  refine (wbezout_any _ _ _ _ _ _ _ Ix Iy (by omega) (by omega)).mono ?_
  rintro e w7 ⟨rh, rs, rt, S, T, rfl, Qh, Qs, Qt, hST, lS, lT, b7⟩
  replace hT := hT.below b7
  replace Ix := Ix.below b7
  replace Iy := Iy.below b7
  replace Jx := Jx.below b7
  replace Jy := Jy.below b7
  replace Jg := Jg.below b7
  replace VA := VA.below b7
  replace VB := VB.below b7
  replace VX := VX.below b7
  replace VY := VY.below b7
  replace VG := VG.below b7
  replace BB := BB.trans (b7.mono BB.size)
  clear b7
  obtain ⟨ph, aoh, nh, ch, rfl⟩ := Qh.open
  obtain ⟨ps, aos, ns, cs, rfl⟩ := Qs.open
  obtain ⟨pt, aot, nt, ct, rfl⟩ := Qt.open
  have HST : Hid (x * S + y * T = ((Nat.gcd x.natAbs y.natAbs : Nat) : Int)) := hST
  clear hST
  obtain ⟨W6, hW6, hS6, hL6, VH⟩ := V2.lay w7 25 (.bool ph) (.slice aoh nh ch)
  replace hT := hT.below hL6
  replace Ix := Ix.below hL6
  replace Iy := Iy.below hL6
  replace Jx := Jx.below hL6
  replace Jy := Jy.below hL6
  replace Jg := Jg.below hL6
  replace Qh := Qh.below hL6
  replace Qs := Qs.below hL6
  replace Qt := Qt.below hL6
  replace VA := VA.below hL6
  replace VB := VB.below hL6
  replace VX := VX.below hL6
  replace VY := VY.below hL6
  replace VG := VG.below hL6
  have hZ6 : w.heap.size ≤ w7.heap.size := BB.size
  replace BB := BB.trans (hL6.mono BB.size)
  clear hL6
  obtain ⟨W7, hW7, hS7, hL7, VS⟩ := V2.lay W6 25 (.bool ps) (.slice aos ns cs)
  replace hT := hT.below hL7
  replace Ix := Ix.below hL7
  replace Iy := Iy.below hL7
  replace Jx := Jx.below hL7
  replace Jy := Jy.below hL7
  replace Jg := Jg.below hL7
  replace Qh := Qh.below hL7
  replace Qs := Qs.below hL7
  replace Qt := Qt.below hL7
  replace VA := VA.below hL7
  replace VB := VB.below hL7
  replace VX := VX.below hL7
  replace VY := VY.below hL7
  replace VG := VG.below hL7
  replace VH := VH.below hL7
  have hZ7 : w.heap.size ≤ W6.heap.size := BB.size
  replace BB := BB.trans (hL7.mono BB.size)
  clear hL7
  obtain ⟨W8, hW8, hS8, hL8, VT⟩ := V2.lay W7 25 (.bool pt) (.slice aot nt ct)
  replace hT := hT.below hL8
  replace Ix := Ix.below hL8
  replace Iy := Iy.below hL8
  replace Jx := Jx.below hL8
  replace Jy := Jy.below hL8
  replace Jg := Jg.below hL8
  replace Qh := Qh.below hL8
  replace Qs := Qs.below hL8
  replace Qt := Qt.below hL8
  replace VA := VA.below hL8
  replace VB := VB.below hL8
  replace VX := VX.below hL8
  replace VY := VY.below hL8
  replace VG := VG.below hL8
  replace VH := VH.below hL8
  replace VS := VS.below hL8
  have hZ8 : w.heap.size ≤ W7.heap.size := BB.size
  replace BB := BB.trans (hL8.mono BB.size)
  clear hL8
  rw [hS6] at VS
  rw [hS7, hS6] at VT
  go_wp2
  rw [← hW6]
  rw [← hW7]
  rw [← hW8]
  have hZ9 : w.heap.size ≤ w7.heap.size := hZ6
  have hX9 : W8.heap.size = w7.heap.size + 1 + 1 + 1 := by rw [hS8, hS7, hS6]
  clear hW6 hS6 hW7 hS7 hW8 hS8 hZ6 hZ7 hZ8
  generalize w7.heap.size = R9 at *
  have lS1 : nl 10000 S.natAbs ≤ 1000000 := nlj lS (by omega)
  have lT1 : nl 10000 T.natAbs ≤ 1000000 := nlj lT (by omega)
  have lx1 : nl 10000 x.natAbs ≤ 1000000 := nlj lx (by omega)
  have ly1 : nl 10000 y.natAbs ≤ 1000000 := nlj ly (by omega)
  have lxS : nl 10000 (x * S).natAbs ≤ 1000000 := nlj (nlz_mul lx lS (Nat.le_refl _)) (by omega)
  have lyT : nl 10000 (y * T).natAbs ≤ 1000000 := nlj (nlz_mul ly lT (Nat.le_refl _)) (by omega)
  have lG : nl W32 ((Nat.gcd x.natAbs y.natAbs : Nat) : Int).natAbs ≤ 1000 := by rw [Int.natAbs_natCast]; exact Nat.le_trans (gcd_nl _ _ 6 lx ly) (by omega)
  go_cut [11] from 33 (fun s11 wx => ∃ (RU : Nat) (pu : Bool) (aou : Option Addr) (nu cu : Nat), s11 = .pointer (some ⟨RU, 0, none⟩) ∧ V2 wx RU (.bool pu) (.slice aou nu cu) ∧ RepJ wx (.agg #[.bool pu, .slice aou nu cu]) (x * S + y * T) ∧ Below W8.heap.size W8 wx)
  case first =>
    clear hT Ix Iy Jg Qh VA VB VG VH BB
    have BB : Below W8.heap.size W8 W8 := Below.refl _ _
    have hDr : Below W8.heap.size W8 W8.drew := (Below.refl _ _).drew
    replace Qs := Qs.below hDr
    replace Qt := Qt.below hDr
    replace Jx := Jx.below hDr
    replace Jy := Jy.below hDr
    replace VX := VX.below hDr
    replace VY := VY.below hDr
    replace VS := VS.below hDr
    replace VT := VT.below hDr
    replace BB := BB.trans (hDr.mono BB.size)
    clear hDr
    refine wp_region_held_drew (S := (fun w' => w'.cell? ⟨R3, 0, none⟩ = some (.bool px) ∧ w'.cell? ⟨R3, 1, none⟩ = some (.slice aox nx cx) ∧ w'.cell? ⟨R4, 0, none⟩ = some (.bool py) ∧ w'.cell? ⟨R4, 1, none⟩ = some (.slice aoy ny cy) ∧ w'.cell? ⟨R9 + 1, 0, none⟩ = some (.bool ps) ∧ w'.cell? ⟨R9 + 1, 1, none⟩ = some (.slice aos ns cs) ∧ w'.cell? ⟨R9 + 1 + 1, 0, none⟩ = some (.bool pt) ∧ w'.cell? ⟨R9 + 1 + 1, 1, none⟩ = some (.slice aot nt ct))) (by kernel_rfl) ?_ (fun hHeld => ?_)
    · exact ⟨VX.1, VX.2.1, VY.1, VY.2.1, VS.1, VS.2.1, VT.1, VT.2.1⟩
    generalize W8.drew = W9 at *
    refine wpAnyH_take (i := 0) (v := ?_) (by simp only [List.getElem?_toArray, List.getElem?_cons_succ, List.getElem?_cons_zero]; rfl) (by kernel_rfl) (by kernel_rfl) (by kernel_rfl) (by exact fun _ _ _ h => h) (Or.inl ⟨by rfl, ?_⟩) (by assumption) ?_
    rotate_left
    · (intro w hSw; (try dsimp only at hSw); go_simp; (try with_reducible rfl))
    (try simp only [Act.put, List.setIfInBounds_toArray, List.set_cons_zero, List.set_cons_succ])
    refine wpAnyH_take (i := 1) (v := ?_) (by simp only [List.getElem?_toArray, List.getElem?_cons_succ, List.getElem?_cons_zero]; rfl) (by kernel_rfl) (by kernel_rfl) (by kernel_rfl) (by exact fun _ _ _ h => h) (Or.inl ⟨by rfl, ?_⟩) (by assumption) ?_
    rotate_left
    · (intro w hSw; (try dsimp only at hSw); go_simp; (try with_reducible rfl))
    (try simp only [Act.put, List.setIfInBounds_toArray, List.set_cons_zero, List.set_cons_succ])
    refine wpAnyH_take (i := 4) (v := ?_) (by simp only [List.getElem?_toArray, List.getElem?_cons_succ, List.getElem?_cons_zero]; rfl) (by kernel_rfl) (by kernel_rfl) (by kernel_rfl) (by exact fun _ _ _ h => h) (Or.inl ⟨by rfl, ?_⟩) (by assumption) ?_
    rotate_left
    · (intro w hSw; (try dsimp only at hSw); go_simp; (try with_reducible rfl))
    (try simp only [Act.put, List.setIfInBounds_toArray, List.set_cons_zero, List.set_cons_succ])
    refine wpAnyH_take (i := 5) (v := ?_) (by simp only [List.getElem?_toArray, List.getElem?_cons_succ, List.getElem?_cons_zero]; rfl) (by kernel_rfl) (by kernel_rfl) (by kernel_rfl) (by exact fun _ _ _ h => h) (Or.inl ⟨by rfl, ?_⟩) (by assumption) ?_
    rotate_left
    · (intro w hSw; (try dsimp only at hSw); go_simp; (try with_reducible rfl))
    (try simp only [Act.put, List.setIfInBounds_toArray, List.set_cons_zero, List.set_cons_succ])
    refine wpAnyH_ready (rs := [2, 9]) (by kernel_rfl) (by simp) ?_
    refine AllReadyH.cons (by simp only [List.getElem?_toArray, List.getElem?_cons_succ, List.getElem?_cons_zero]; rfl) (fun K hK => ?_) ?_
    ·
      go_simp
      refine (rfrom_any _ _ _ _ (Qs.at 320 lS) (by omega)).mono ?_
      rintro e w8 ⟨f1, rfl, F1, b8⟩
      go_wp2_with fail
      replace Qs := Qs.below b8
      replace Qt := Qt.below b8
      replace Jx := Jx.below b8
      replace Jy := Jy.below b8
      replace VX := VX.below b8
      replace VY := VY.below b8
      replace VS := VS.below b8
      replace VT := VT.below b8
      replace BB := BB.trans (b8.mono BB.size)
      clear b8
      refine hK.out _ _ ?_ (fun hH1 => ?_)
      · exact ⟨VX.1, VX.2.1, VY.1, VY.2.1, VS.1, VS.2.1, VT.1, VT.2.1⟩
      clear hK K hHeld
      (try simp only [Act.put, List.setIfInBounds_toArray, List.set_cons_zero, List.set_cons_succ])
      refine wpAnyH_ready (rs := [3, 9]) (by kernel_rfl) (by simp) ?_
      refine AllReadyH.cons (by simp only [List.getElem?_toArray, List.getElem?_cons_succ, List.getElem?_cons_zero]; rfl) (fun K hK => ?_) ?_
      ·
        go_simp
        refine (rtimes_any _ _ _ _ _ Jx F1 lx1 lS1).mono ?_
        rintro e w9 ⟨p1, rfl, P1, b9⟩
        go_wp2_with fail
        replace Qs := Qs.below b9
        replace Qt := Qt.below b9
        replace Jx := Jx.below b9
        replace Jy := Jy.below b9
        replace F1 := F1.below b9
        replace VX := VX.below b9
        replace VY := VY.below b9
        replace VS := VS.below b9
        replace VT := VT.below b9
        replace BB := BB.trans (b9.mono BB.size)
        clear b9
        refine hK.out _ _ ?_ (fun hH2 => ?_)
        · exact ⟨VX.1, VX.2.1, VY.1, VY.2.1, VS.1, VS.2.1, VT.1, VT.2.1⟩
        clear hK K hH1
        (try simp only [Act.put, List.setIfInBounds_toArray, List.set_cons_zero, List.set_cons_succ])
        refine wpAnyH_ready (rs := [6, 9]) (by kernel_rfl) (by simp) ?_
        refine AllReadyH.cons (by simp only [List.getElem?_toArray, List.getElem?_cons_succ, List.getElem?_cons_zero]; rfl) (fun K hK => ?_) ?_
        ·
          go_simp
          refine (rfrom_any _ _ _ _ (Qt.at 700 lT) (by omega)).mono ?_
          rintro e w10 ⟨f2, rfl, F2, b10⟩
          go_wp2_with fail
          replace Qs := Qs.below b10
          replace Qt := Qt.below b10
          replace Jx := Jx.below b10
          replace Jy := Jy.below b10
          replace F1 := F1.below b10
          replace P1 := P1.below b10
          replace VX := VX.below b10
          replace VY := VY.below b10
          replace VS := VS.below b10
          replace VT := VT.below b10
          replace BB := BB.trans (b10.mono BB.size)
          clear b10
          refine hK.out _ _ ?_ (fun hH3 => ?_)
          · exact ⟨VX.1, VX.2.1, VY.1, VY.2.1, VS.1, VS.2.1, VT.1, VT.2.1⟩
          clear hK K hH2
          (try simp only [Act.put, List.setIfInBounds_toArray, List.set_cons_zero, List.set_cons_succ])
          refine wpAnyH_ready (rs := [7, 9]) (by kernel_rfl) (by simp) ?_
          refine AllReadyH.cons (by simp only [List.getElem?_toArray, List.getElem?_cons_succ, List.getElem?_cons_zero]; rfl) (fun K hK => ?_) ?_
          ·
            go_simp
            refine (rtimes_any _ _ _ _ _ Jy F2 ly1 lT1).mono ?_
            rintro e w11 ⟨p2, rfl, P2, b11⟩
            go_wp2_with fail
            replace Qs := Qs.below b11
            replace Qt := Qt.below b11
            replace Jx := Jx.below b11
            replace Jy := Jy.below b11
            replace F1 := F1.below b11
            replace P1 := P1.below b11
            replace F2 := F2.below b11
            replace VX := VX.below b11
            replace VY := VY.below b11
            replace VS := VS.below b11
            replace VT := VT.below b11
            replace BB := BB.trans (b11.mono BB.size)
            clear b11
            refine hK.out _ _ ?_ (fun hH4 => ?_)
            · exact ⟨VX.1, VX.2.1, VY.1, VY.2.1, VS.1, VS.2.1, VT.1, VT.2.1⟩
            clear hK K hH3
            (try simp only [Act.put, List.setIfInBounds_toArray, List.set_cons_zero, List.set_cons_succ])
            refine wpAnyH_ready (rs := [8, 9]) (by kernel_rfl) (by simp) ?_
            refine AllReadyH.cons (by simp only [List.getElem?_toArray, List.getElem?_cons_succ, List.getElem?_cons_zero]; rfl) (fun K hK => ?_) ?_
            ·
              go_simp
              refine (rplus_any _ _ _ _ _ P1 P2 lxS lyT).mono ?_
              rintro e w12 ⟨ps, rfl, PS, b12⟩
              obtain ⟨pu, aou, nu, cu, rfl⟩ := PS.open
              go_wp2_with fail
              replace Qs := Qs.below b12
              replace Qt := Qt.below b12
              replace Jx := Jx.below b12
              replace Jy := Jy.below b12
              replace F1 := F1.below b12
              replace P1 := P1.below b12
              replace F2 := F2.below b12
              replace P2 := P2.below b12
              replace VX := VX.below b12
              replace VY := VY.below b12
              replace VS := VS.below b12
              replace VT := VT.below b12
              replace BB := BB.trans (b12.mono BB.size)
              clear b12
              refine hK.out _ _ ?_ (fun hH5 => ?_)
              · exact ⟨VX.1, VX.2.1, VY.1, VY.2.1, VS.1, VS.2.1, VT.1, VT.2.1⟩
              clear hK K hH4
              (try simp only [Act.put, List.setIfInBounds_toArray, List.set_cons_zero, List.set_cons_succ])
              refine wpAnyH_ready (rs := [9]) (by kernel_rfl) (by simp) ?_
              refine AllReadyH.cons (by simp only [List.getElem?_toArray, List.getElem?_cons_succ, List.getElem?_cons_zero]; rfl) (fun K hK => ?_) AllReadyH.nil
              go_simp
              have hZ10 : W8.heap.size ≤ w12.heap.size := BB.size
              have hN10VX : R3 ≠ w12.heap.size := Nat.ne_of_lt VX.lt
              have hN10VY : R4 ≠ w12.heap.size := Nat.ne_of_lt VY.lt
              have hN10VS : R9 + 1 ≠ w12.heap.size := Nat.ne_of_lt VS.lt
              have hN10VT : R9 + 1 + 1 ≠ w12.heap.size := Nat.ne_of_lt VT.lt
              obtain ⟨W10, hW10, hS10, hL10, VU⟩ := V2.lay w12 30 (.bool false) (.slice none 0 0)
              replace Qs := Qs.below hL10
              replace Qt := Qt.below hL10
              replace Jx := Jx.below hL10
              replace Jy := Jy.below hL10
              replace F1 := F1.below hL10
              replace P1 := P1.below hL10
              replace F2 := F2.below hL10
              replace P2 := P2.below hL10
              replace PS := PS.below hL10
              replace VX := VX.below hL10
              replace VY := VY.below hL10
              replace VS := VS.below hL10
              replace VT := VT.below hL10
              replace BB := BB.trans (hL10.mono BB.size)
              clear hL10
              rw [← hW10]
              generalize w12.heap.size = R10 at *
              clear hW10 hS10
              refine hK.out _ _ ?_ (fun hH6 => ?_)
              · exact ⟨VX.1, VX.2.1, VY.1, VY.2.1, VS.1, VS.2.1, VT.1, VT.2.1⟩
              clear hK K hH5
              (try simp only [Act.put, List.setIfInBounds_toArray, List.set_cons_zero, List.set_cons_succ])
              refine wpAnyH_ready (rs := [10]) (by kernel_rfl) (by simp) ?_
              refine AllReadyH.cons (by simp only [List.getElem?_toArray, List.getElem?_cons_succ, List.getElem?_cons_zero]; rfl) (fun K hK => ?_) AllReadyH.nil
              have hKp := VU.keepJ (.bool pu) (.slice aou nu cu)
              have VX_n := VX.other (R := R10) (by omega) (.bool pu) (.slice aou nu cu)
              have VY_n := VY.other (R := R10) (by omega) (.bool pu) (.slice aou nu cu)
              have VS_n := VS.other (R := R10) (by omega) (.bool pu) (.slice aou nu cu)
              have VT_n := VT.other (R := R10) (by omega) (.bool pu) (.slice aou nu cu)
              have VU_n := VU.same (.bool pu) (.slice aou nu cu)
              have Qs_n := Qs.keep hKp
              have Qt_n := Qt.keep hKp
              have Jx_n := Jx.keep hKp
              have Jy_n := Jy.keep hKp
              have F1_n := F1.keep hKp
              have P1_n := P1.keep hKp
              have F2_n := F2.keep hKp
              have P2_n := P2.keep hKp
              have PS_n := PS.keep hKp
              have BB_n := below_store2 (R := R10) BB (by omega) (.bool pu) (.slice aou nu cu)
              clear hKp
              obtain ⟨VU_0, VU_1, VU_2, VU_3⟩ := id VU
              go_simp
              clear VU_0 VU_1 VU_2 VU_3
              clear BB Qs Qt Jx Jy F1 P1 F2 P2 PS VX VY VS VT VU
              generalize (W10.setCell ⟨R10, 0, none⟩ (.bool pu)).setCell ⟨R10, 1, none⟩ (.slice aou nu cu) = W11 at *
              have BB := BB_n
              have Qs := Qs_n
              have Qt := Qt_n
              have Jx := Jx_n
              have Jy := Jy_n
              have F1 := F1_n
              have P1 := P1_n
              have F2 := F2_n
              have P2 := P2_n
              have PS := PS_n
              have VX := VX_n
              have VY := VY_n
              have VS := VS_n
              have VT := VT_n
              have VU := VU_n
              clear BB_n Qs_n Qt_n Jx_n Jy_n F1_n P1_n F2_n P2_n PS_n VX_n VY_n VS_n VT_n VU_n
              refine hK.out _ _ ?_ (fun hH7 => ?_)
              · exact ⟨VX.1, VX.2.1, VY.1, VY.2.1, VS.1, VS.2.1, VT.1, VT.2.1⟩
              clear hK K hH6
              (try simp only [Act.put, List.setIfInBounds_toArray, List.set_cons_zero, List.set_cons_succ])
              refine wpAnyH_done (by kernel_rfl) ?_ _
              clear hH7
              go_wp2_with fail
              go_meet
              exact ⟨R10, pu, aou, nu, cu, rfl, VU, PS, BB⟩
            refine AllReadyH.cons (by simp only [List.getElem?_toArray, List.getElem?_cons_succ, List.getElem?_cons_zero]; rfl) (fun K hK => ?_) ?_
            ·
              go_simp
              have hZ12 : W8.heap.size ≤ w11.heap.size := BB.size
              have hN12VX : R3 ≠ w11.heap.size := Nat.ne_of_lt VX.lt
              have hN12VY : R4 ≠ w11.heap.size := Nat.ne_of_lt VY.lt
              have hN12VS : R9 + 1 ≠ w11.heap.size := Nat.ne_of_lt VS.lt
              have hN12VT : R9 + 1 + 1 ≠ w11.heap.size := Nat.ne_of_lt VT.lt
              obtain ⟨W12, hW12, hS12, hL12, VU⟩ := V2.lay w11 30 (.bool false) (.slice none 0 0)
              replace Qs := Qs.below hL12
              replace Qt := Qt.below hL12
              replace Jx := Jx.below hL12
              replace Jy := Jy.below hL12
              replace F1 := F1.below hL12
              replace P1 := P1.below hL12
              replace F2 := F2.below hL12
              replace P2 := P2.below hL12
              replace VX := VX.below hL12
              replace VY := VY.below hL12
              replace VS := VS.below hL12
              replace VT := VT.below hL12
              replace BB := BB.trans (hL12.mono BB.size)
              clear hL12
              rw [← hW12]
              generalize w11.heap.size = R12 at *
              clear hW12 hS12
              refine hK.out _ _ ?_ (fun hH5 => ?_)
              · exact ⟨VX.1, VX.2.1, VY.1, VY.2.1, VS.1, VS.2.1, VT.1, VT.2.1⟩
              clear hK K hH4
              (try simp only [Act.put, List.setIfInBounds_toArray, List.set_cons_zero, List.set_cons_succ])
              refine wpAnyH_ready (rs := [8]) (by kernel_rfl) (by simp) ?_
              refine AllReadyH.cons (by simp only [List.getElem?_toArray, List.getElem?_cons_succ, List.getElem?_cons_zero]; rfl) (fun K hK => ?_) AllReadyH.nil
              go_simp
              refine (rplus_any _ _ _ _ _ P1 P2 lxS lyT).mono ?_
              rintro e w13 ⟨ps, rfl, PS, b13⟩
              obtain ⟨pu, aou, nu, cu, rfl⟩ := PS.open
              go_wp2_with fail
              replace Qs := Qs.below b13
              replace Qt := Qt.below b13
              replace Jx := Jx.below b13
              replace Jy := Jy.below b13
              replace F1 := F1.below b13
              replace P1 := P1.below b13
              replace F2 := F2.below b13
              replace P2 := P2.below b13
              replace VX := VX.below b13
              replace VY := VY.below b13
              replace VS := VS.below b13
              replace VT := VT.below b13
              replace VU := VU.below b13
              replace BB := BB.trans (b13.mono BB.size)
              clear b13
              refine hK.out _ _ ?_ (fun hH6 => ?_)
              · exact ⟨VX.1, VX.2.1, VY.1, VY.2.1, VS.1, VS.2.1, VT.1, VT.2.1⟩
              clear hK K hH5
              (try simp only [Act.put, List.setIfInBounds_toArray, List.set_cons_zero, List.set_cons_succ])
              refine wpAnyH_ready (rs := [10]) (by kernel_rfl) (by simp) ?_
              refine AllReadyH.cons (by simp only [List.getElem?_toArray, List.getElem?_cons_succ, List.getElem?_cons_zero]; rfl) (fun K hK => ?_) AllReadyH.nil
              have hKp := VU.keepJ (.bool pu) (.slice aou nu cu)
              have VX_n := VX.other (R := R12) (by omega) (.bool pu) (.slice aou nu cu)
              have VY_n := VY.other (R := R12) (by omega) (.bool pu) (.slice aou nu cu)
              have VS_n := VS.other (R := R12) (by omega) (.bool pu) (.slice aou nu cu)
              have VT_n := VT.other (R := R12) (by omega) (.bool pu) (.slice aou nu cu)
              have VU_n := VU.same (.bool pu) (.slice aou nu cu)
              have Qs_n := Qs.keep hKp
              have Qt_n := Qt.keep hKp
              have Jx_n := Jx.keep hKp
              have Jy_n := Jy.keep hKp
              have F1_n := F1.keep hKp
              have P1_n := P1.keep hKp
              have F2_n := F2.keep hKp
              have P2_n := P2.keep hKp
              have PS_n := PS.keep hKp
              have BB_n := below_store2 (R := R12) BB (by omega) (.bool pu) (.slice aou nu cu)
              clear hKp
              obtain ⟨VU_0, VU_1, VU_2, VU_3⟩ := id VU
              go_simp
              clear VU_0 VU_1 VU_2 VU_3
              clear BB Qs Qt Jx Jy F1 P1 F2 P2 PS VX VY VS VT VU
              generalize (w13.setCell ⟨R12, 0, none⟩ (.bool pu)).setCell ⟨R12, 1, none⟩ (.slice aou nu cu) = W13 at *
              have BB := BB_n
              have Qs := Qs_n
              have Qt := Qt_n
              have Jx := Jx_n
              have Jy := Jy_n
              have F1 := F1_n
              have P1 := P1_n
              have F2 := F2_n
              have P2 := P2_n
              have PS := PS_n
              have VX := VX_n
              have VY := VY_n
              have VS := VS_n
              have VT := VT_n
              have VU := VU_n
              clear BB_n Qs_n Qt_n Jx_n Jy_n F1_n P1_n F2_n P2_n PS_n VX_n VY_n VS_n VT_n VU_n
              refine hK.out _ _ ?_ (fun hH7 => ?_)
              · exact ⟨VX.1, VX.2.1, VY.1, VY.2.1, VS.1, VS.2.1, VT.1, VT.2.1⟩
              clear hK K hH6
              (try simp only [Act.put, List.setIfInBounds_toArray, List.set_cons_zero, List.set_cons_succ])
              refine wpAnyH_done (by kernel_rfl) ?_ _
              clear hH7
              go_wp2_with fail
              go_meet
              exact ⟨R12, pu, aou, nu, cu, rfl, VU, PS, BB⟩
            exact AllReadyH.nil
          refine AllReadyH.cons (by simp only [List.getElem?_toArray, List.getElem?_cons_succ, List.getElem?_cons_zero]; rfl) (fun K hK => ?_) ?_
          ·
            go_simp
            have hZ14 : W8.heap.size ≤ w10.heap.size := BB.size
            have hN14VX : R3 ≠ w10.heap.size := Nat.ne_of_lt VX.lt
            have hN14VY : R4 ≠ w10.heap.size := Nat.ne_of_lt VY.lt
            have hN14VS : R9 + 1 ≠ w10.heap.size := Nat.ne_of_lt VS.lt
            have hN14VT : R9 + 1 + 1 ≠ w10.heap.size := Nat.ne_of_lt VT.lt
            obtain ⟨W14, hW14, hS14, hL14, VU⟩ := V2.lay w10 30 (.bool false) (.slice none 0 0)
            replace Qs := Qs.below hL14
            replace Qt := Qt.below hL14
            replace Jx := Jx.below hL14
            replace Jy := Jy.below hL14
            replace F1 := F1.below hL14
            replace P1 := P1.below hL14
            replace F2 := F2.below hL14
            replace VX := VX.below hL14
            replace VY := VY.below hL14
            replace VS := VS.below hL14
            replace VT := VT.below hL14
            replace BB := BB.trans (hL14.mono BB.size)
            clear hL14
            rw [← hW14]
            generalize w10.heap.size = R14 at *
            clear hW14 hS14
            refine hK.out _ _ ?_ (fun hH4 => ?_)
            · exact ⟨VX.1, VX.2.1, VY.1, VY.2.1, VS.1, VS.2.1, VT.1, VT.2.1⟩
            clear hK K hH3
            (try simp only [Act.put, List.setIfInBounds_toArray, List.set_cons_zero, List.set_cons_succ])
            refine wpAnyH_ready (rs := [7]) (by kernel_rfl) (by simp) ?_
            refine AllReadyH.cons (by simp only [List.getElem?_toArray, List.getElem?_cons_succ, List.getElem?_cons_zero]; rfl) (fun K hK => ?_) AllReadyH.nil
            go_simp
            refine (rtimes_any _ _ _ _ _ Jy F2 ly1 lT1).mono ?_
            rintro e w14 ⟨p2, rfl, P2, b14⟩
            go_wp2_with fail
            replace Qs := Qs.below b14
            replace Qt := Qt.below b14
            replace Jx := Jx.below b14
            replace Jy := Jy.below b14
            replace F1 := F1.below b14
            replace P1 := P1.below b14
            replace F2 := F2.below b14
            replace VX := VX.below b14
            replace VY := VY.below b14
            replace VS := VS.below b14
            replace VT := VT.below b14
            replace VU := VU.below b14
            replace BB := BB.trans (b14.mono BB.size)
            clear b14
            refine hK.out _ _ ?_ (fun hH5 => ?_)
            · exact ⟨VX.1, VX.2.1, VY.1, VY.2.1, VS.1, VS.2.1, VT.1, VT.2.1⟩
            clear hK K hH4
            (try simp only [Act.put, List.setIfInBounds_toArray, List.set_cons_zero, List.set_cons_succ])
            refine wpAnyH_ready (rs := [8]) (by kernel_rfl) (by simp) ?_
            refine AllReadyH.cons (by simp only [List.getElem?_toArray, List.getElem?_cons_succ, List.getElem?_cons_zero]; rfl) (fun K hK => ?_) AllReadyH.nil
            go_simp
            refine (rplus_any _ _ _ _ _ P1 P2 lxS lyT).mono ?_
            rintro e w15 ⟨ps, rfl, PS, b15⟩
            obtain ⟨pu, aou, nu, cu, rfl⟩ := PS.open
            go_wp2_with fail
            replace Qs := Qs.below b15
            replace Qt := Qt.below b15
            replace Jx := Jx.below b15
            replace Jy := Jy.below b15
            replace F1 := F1.below b15
            replace P1 := P1.below b15
            replace F2 := F2.below b15
            replace P2 := P2.below b15
            replace VX := VX.below b15
            replace VY := VY.below b15
            replace VS := VS.below b15
            replace VT := VT.below b15
            replace VU := VU.below b15
            replace BB := BB.trans (b15.mono BB.size)
            clear b15
            refine hK.out _ _ ?_ (fun hH6 => ?_)
            · exact ⟨VX.1, VX.2.1, VY.1, VY.2.1, VS.1, VS.2.1, VT.1, VT.2.1⟩
            clear hK K hH5
            (try simp only [Act.put, List.setIfInBounds_toArray, List.set_cons_zero, List.set_cons_succ])
            refine wpAnyH_ready (rs := [10]) (by kernel_rfl) (by simp) ?_
            refine AllReadyH.cons (by simp only [List.getElem?_toArray, List.getElem?_cons_succ, List.getElem?_cons_zero]; rfl) (fun K hK => ?_) AllReadyH.nil
            have hKp := VU.keepJ (.bool pu) (.slice aou nu cu)
            have VX_n := VX.other (R := R14) (by omega) (.bool pu) (.slice aou nu cu)
            have VY_n := VY.other (R := R14) (by omega) (.bool pu) (.slice aou nu cu)
            have VS_n := VS.other (R := R14) (by omega) (.bool pu) (.slice aou nu cu)
            have VT_n := VT.other (R := R14) (by omega) (.bool pu) (.slice aou nu cu)
            have VU_n := VU.same (.bool pu) (.slice aou nu cu)
            have Qs_n := Qs.keep hKp
            have Qt_n := Qt.keep hKp
            have Jx_n := Jx.keep hKp
            have Jy_n := Jy.keep hKp
            have F1_n := F1.keep hKp
            have P1_n := P1.keep hKp
            have F2_n := F2.keep hKp
            have P2_n := P2.keep hKp
            have PS_n := PS.keep hKp
            have BB_n := below_store2 (R := R14) BB (by omega) (.bool pu) (.slice aou nu cu)
            clear hKp
            obtain ⟨VU_0, VU_1, VU_2, VU_3⟩ := id VU
            go_simp
            clear VU_0 VU_1 VU_2 VU_3
            clear BB Qs Qt Jx Jy F1 P1 F2 P2 PS VX VY VS VT VU
            generalize (w15.setCell ⟨R14, 0, none⟩ (.bool pu)).setCell ⟨R14, 1, none⟩ (.slice aou nu cu) = W15 at *
            have BB := BB_n
            have Qs := Qs_n
            have Qt := Qt_n
            have Jx := Jx_n
            have Jy := Jy_n
            have F1 := F1_n
            have P1 := P1_n
            have F2 := F2_n
            have P2 := P2_n
            have PS := PS_n
            have VX := VX_n
            have VY := VY_n
            have VS := VS_n
            have VT := VT_n
            have VU := VU_n
            clear BB_n Qs_n Qt_n Jx_n Jy_n F1_n P1_n F2_n P2_n PS_n VX_n VY_n VS_n VT_n VU_n
            refine hK.out _ _ ?_ (fun hH7 => ?_)
            · exact ⟨VX.1, VX.2.1, VY.1, VY.2.1, VS.1, VS.2.1, VT.1, VT.2.1⟩
            clear hK K hH6
            (try simp only [Act.put, List.setIfInBounds_toArray, List.set_cons_zero, List.set_cons_succ])
            refine wpAnyH_done (by kernel_rfl) ?_ _
            clear hH7
            go_wp2_with fail
            go_meet
            exact ⟨R14, pu, aou, nu, cu, rfl, VU, PS, BB⟩
          exact AllReadyH.nil
        refine AllReadyH.cons (by simp only [List.getElem?_toArray, List.getElem?_cons_succ, List.getElem?_cons_zero]; rfl) (fun K hK => ?_) ?_
        ·
          go_simp
          have hZ16 : W8.heap.size ≤ w9.heap.size := BB.size
          have hN16VX : R3 ≠ w9.heap.size := Nat.ne_of_lt VX.lt
          have hN16VY : R4 ≠ w9.heap.size := Nat.ne_of_lt VY.lt
          have hN16VS : R9 + 1 ≠ w9.heap.size := Nat.ne_of_lt VS.lt
          have hN16VT : R9 + 1 + 1 ≠ w9.heap.size := Nat.ne_of_lt VT.lt
          obtain ⟨W16, hW16, hS16, hL16, VU⟩ := V2.lay w9 30 (.bool false) (.slice none 0 0)
          replace Qs := Qs.below hL16
          replace Qt := Qt.below hL16
          replace Jx := Jx.below hL16
          replace Jy := Jy.below hL16
          replace F1 := F1.below hL16
          replace P1 := P1.below hL16
          replace VX := VX.below hL16
          replace VY := VY.below hL16
          replace VS := VS.below hL16
          replace VT := VT.below hL16
          replace BB := BB.trans (hL16.mono BB.size)
          clear hL16
          rw [← hW16]
          generalize w9.heap.size = R16 at *
          clear hW16 hS16
          refine hK.out _ _ ?_ (fun hH3 => ?_)
          · exact ⟨VX.1, VX.2.1, VY.1, VY.2.1, VS.1, VS.2.1, VT.1, VT.2.1⟩
          clear hK K hH2
          (try simp only [Act.put, List.setIfInBounds_toArray, List.set_cons_zero, List.set_cons_succ])
          refine wpAnyH_ready (rs := [6]) (by kernel_rfl) (by simp) ?_
          refine AllReadyH.cons (by simp only [List.getElem?_toArray, List.getElem?_cons_succ, List.getElem?_cons_zero]; rfl) (fun K hK => ?_) AllReadyH.nil
          go_simp
          refine (rfrom_any _ _ _ _ (Qt.at 700 lT) (by omega)).mono ?_
          rintro e w16 ⟨f2, rfl, F2, b16⟩
          go_wp2_with fail
          replace Qs := Qs.below b16
          replace Qt := Qt.below b16
          replace Jx := Jx.below b16
          replace Jy := Jy.below b16
          replace F1 := F1.below b16
          replace P1 := P1.below b16
          replace VX := VX.below b16
          replace VY := VY.below b16
          replace VS := VS.below b16
          replace VT := VT.below b16
          replace VU := VU.below b16
          replace BB := BB.trans (b16.mono BB.size)
          clear b16
          refine hK.out _ _ ?_ (fun hH4 => ?_)
          · exact ⟨VX.1, VX.2.1, VY.1, VY.2.1, VS.1, VS.2.1, VT.1, VT.2.1⟩
          clear hK K hH3
          (try simp only [Act.put, List.setIfInBounds_toArray, List.set_cons_zero, List.set_cons_succ])
          refine wpAnyH_ready (rs := [7]) (by kernel_rfl) (by simp) ?_
          refine AllReadyH.cons (by simp only [List.getElem?_toArray, List.getElem?_cons_succ, List.getElem?_cons_zero]; rfl) (fun K hK => ?_) AllReadyH.nil
          go_simp
          refine (rtimes_any _ _ _ _ _ Jy F2 ly1 lT1).mono ?_
          rintro e w17 ⟨p2, rfl, P2, b17⟩
          go_wp2_with fail
          replace Qs := Qs.below b17
          replace Qt := Qt.below b17
          replace Jx := Jx.below b17
          replace Jy := Jy.below b17
          replace F1 := F1.below b17
          replace P1 := P1.below b17
          replace F2 := F2.below b17
          replace VX := VX.below b17
          replace VY := VY.below b17
          replace VS := VS.below b17
          replace VT := VT.below b17
          replace VU := VU.below b17
          replace BB := BB.trans (b17.mono BB.size)
          clear b17
          refine hK.out _ _ ?_ (fun hH5 => ?_)
          · exact ⟨VX.1, VX.2.1, VY.1, VY.2.1, VS.1, VS.2.1, VT.1, VT.2.1⟩
          clear hK K hH4
          (try simp only [Act.put, List.setIfInBounds_toArray, List.set_cons_zero, List.set_cons_succ])
          refine wpAnyH_ready (rs := [8]) (by kernel_rfl) (by simp) ?_
          refine AllReadyH.cons (by simp only [List.getElem?_toArray, List.getElem?_cons_succ, List.getElem?_cons_zero]; rfl) (fun K hK => ?_) AllReadyH.nil
          go_simp
          refine (rplus_any _ _ _ _ _ P1 P2 lxS lyT).mono ?_
          rintro e w18 ⟨ps, rfl, PS, b18⟩
          obtain ⟨pu, aou, nu, cu, rfl⟩ := PS.open
          go_wp2_with fail
          replace Qs := Qs.below b18
          replace Qt := Qt.below b18
          replace Jx := Jx.below b18
          replace Jy := Jy.below b18
          replace F1 := F1.below b18
          replace P1 := P1.below b18
          replace F2 := F2.below b18
          replace P2 := P2.below b18
          replace VX := VX.below b18
          replace VY := VY.below b18
          replace VS := VS.below b18
          replace VT := VT.below b18
          replace VU := VU.below b18
          replace BB := BB.trans (b18.mono BB.size)
          clear b18
          refine hK.out _ _ ?_ (fun hH6 => ?_)
          · exact ⟨VX.1, VX.2.1, VY.1, VY.2.1, VS.1, VS.2.1, VT.1, VT.2.1⟩
          clear hK K hH5
          (try simp only [Act.put, List.setIfInBounds_toArray, List.set_cons_zero, List.set_cons_succ])
          refine wpAnyH_ready (rs := [10]) (by kernel_rfl) (by simp) ?_
          refine AllReadyH.cons (by simp only [List.getElem?_toArray, List.getElem?_cons_succ, List.getElem?_cons_zero]; rfl) (fun K hK => ?_) AllReadyH.nil
          have hKp := VU.keepJ (.bool pu) (.slice aou nu cu)
          have VX_n := VX.other (R := R16) (by omega) (.bool pu) (.slice aou nu cu)
          have VY_n := VY.other (R := R16) (by omega) (.bool pu) (.slice aou nu cu)
          have VS_n := VS.other (R := R16) (by omega) (.bool pu) (.slice aou nu cu)
          have VT_n := VT.other (R := R16) (by omega) (.bool pu) (.slice aou nu cu)
          have VU_n := VU.same (.bool pu) (.slice aou nu cu)
          have Qs_n := Qs.keep hKp
          have Qt_n := Qt.keep hKp
          have Jx_n := Jx.keep hKp
          have Jy_n := Jy.keep hKp
          have F1_n := F1.keep hKp
          have P1_n := P1.keep hKp
          have F2_n := F2.keep hKp
          have P2_n := P2.keep hKp
          have PS_n := PS.keep hKp
          have BB_n := below_store2 (R := R16) BB (by omega) (.bool pu) (.slice aou nu cu)
          clear hKp
          obtain ⟨VU_0, VU_1, VU_2, VU_3⟩ := id VU
          go_simp
          clear VU_0 VU_1 VU_2 VU_3
          clear BB Qs Qt Jx Jy F1 P1 F2 P2 PS VX VY VS VT VU
          generalize (w18.setCell ⟨R16, 0, none⟩ (.bool pu)).setCell ⟨R16, 1, none⟩ (.slice aou nu cu) = W17 at *
          have BB := BB_n
          have Qs := Qs_n
          have Qt := Qt_n
          have Jx := Jx_n
          have Jy := Jy_n
          have F1 := F1_n
          have P1 := P1_n
          have F2 := F2_n
          have P2 := P2_n
          have PS := PS_n
          have VX := VX_n
          have VY := VY_n
          have VS := VS_n
          have VT := VT_n
          have VU := VU_n
          clear BB_n Qs_n Qt_n Jx_n Jy_n F1_n P1_n F2_n P2_n PS_n VX_n VY_n VS_n VT_n VU_n
          refine hK.out _ _ ?_ (fun hH7 => ?_)
          · exact ⟨VX.1, VX.2.1, VY.1, VY.2.1, VS.1, VS.2.1, VT.1, VT.2.1⟩
          clear hK K hH6
          (try simp only [Act.put, List.setIfInBounds_toArray, List.set_cons_zero, List.set_cons_succ])
          refine wpAnyH_done (by kernel_rfl) ?_ _
          clear hH7
          go_wp2_with fail
          go_meet
          exact ⟨R16, pu, aou, nu, cu, rfl, VU, PS, BB⟩
        exact AllReadyH.nil
      refine AllReadyH.cons (by simp only [List.getElem?_toArray, List.getElem?_cons_succ, List.getElem?_cons_zero]; rfl) (fun K hK => ?_) ?_
      ·
        go_simp
        have hZ18 : W8.heap.size ≤ w8.heap.size := BB.size
        have hN18VX : R3 ≠ w8.heap.size := Nat.ne_of_lt VX.lt
        have hN18VY : R4 ≠ w8.heap.size := Nat.ne_of_lt VY.lt
        have hN18VS : R9 + 1 ≠ w8.heap.size := Nat.ne_of_lt VS.lt
        have hN18VT : R9 + 1 + 1 ≠ w8.heap.size := Nat.ne_of_lt VT.lt
        obtain ⟨W18, hW18, hS18, hL18, VU⟩ := V2.lay w8 30 (.bool false) (.slice none 0 0)
        replace Qs := Qs.below hL18
        replace Qt := Qt.below hL18
        replace Jx := Jx.below hL18
        replace Jy := Jy.below hL18
        replace F1 := F1.below hL18
        replace VX := VX.below hL18
        replace VY := VY.below hL18
        replace VS := VS.below hL18
        replace VT := VT.below hL18
        replace BB := BB.trans (hL18.mono BB.size)
        clear hL18
        rw [← hW18]
        generalize w8.heap.size = R18 at *
        clear hW18 hS18
        refine hK.out _ _ ?_ (fun hH2 => ?_)
        · exact ⟨VX.1, VX.2.1, VY.1, VY.2.1, VS.1, VS.2.1, VT.1, VT.2.1⟩
        clear hK K hH1
        (try simp only [Act.put, List.setIfInBounds_toArray, List.set_cons_zero, List.set_cons_succ])
        refine wpAnyH_ready (rs := [3]) (by kernel_rfl) (by simp) ?_
        refine AllReadyH.cons (by simp only [List.getElem?_toArray, List.getElem?_cons_succ, List.getElem?_cons_zero]; rfl) (fun K hK => ?_) AllReadyH.nil
        go_simp
        refine (rtimes_any _ _ _ _ _ Jx F1 lx1 lS1).mono ?_
        rintro e w19 ⟨p1, rfl, P1, b19⟩
        go_wp2_with fail
        replace Qs := Qs.below b19
        replace Qt := Qt.below b19
        replace Jx := Jx.below b19
        replace Jy := Jy.below b19
        replace F1 := F1.below b19
        replace VX := VX.below b19
        replace VY := VY.below b19
        replace VS := VS.below b19
        replace VT := VT.below b19
        replace VU := VU.below b19
        replace BB := BB.trans (b19.mono BB.size)
        clear b19
        refine hK.out _ _ ?_ (fun hH3 => ?_)
        · exact ⟨VX.1, VX.2.1, VY.1, VY.2.1, VS.1, VS.2.1, VT.1, VT.2.1⟩
        clear hK K hH2
        (try simp only [Act.put, List.setIfInBounds_toArray, List.set_cons_zero, List.set_cons_succ])
        refine wpAnyH_ready (rs := [6]) (by kernel_rfl) (by simp) ?_
        refine AllReadyH.cons (by simp only [List.getElem?_toArray, List.getElem?_cons_succ, List.getElem?_cons_zero]; rfl) (fun K hK => ?_) AllReadyH.nil
        go_simp
        refine (rfrom_any _ _ _ _ (Qt.at 700 lT) (by omega)).mono ?_
        rintro e w20 ⟨f2, rfl, F2, b20⟩
        go_wp2_with fail
        replace Qs := Qs.below b20
        replace Qt := Qt.below b20
        replace Jx := Jx.below b20
        replace Jy := Jy.below b20
        replace F1 := F1.below b20
        replace P1 := P1.below b20
        replace VX := VX.below b20
        replace VY := VY.below b20
        replace VS := VS.below b20
        replace VT := VT.below b20
        replace VU := VU.below b20
        replace BB := BB.trans (b20.mono BB.size)
        clear b20
        refine hK.out _ _ ?_ (fun hH4 => ?_)
        · exact ⟨VX.1, VX.2.1, VY.1, VY.2.1, VS.1, VS.2.1, VT.1, VT.2.1⟩
        clear hK K hH3
        (try simp only [Act.put, List.setIfInBounds_toArray, List.set_cons_zero, List.set_cons_succ])
        refine wpAnyH_ready (rs := [7]) (by kernel_rfl) (by simp) ?_
        refine AllReadyH.cons (by simp only [List.getElem?_toArray, List.getElem?_cons_succ, List.getElem?_cons_zero]; rfl) (fun K hK => ?_) AllReadyH.nil
        go_simp
        refine (rtimes_any _ _ _ _ _ Jy F2 ly1 lT1).mono ?_
        rintro e w21 ⟨p2, rfl, P2, b21⟩
        go_wp2_with fail
        replace Qs := Qs.below b21
        replace Qt := Qt.below b21
        replace Jx := Jx.below b21
        replace Jy := Jy.below b21
        replace F1 := F1.below b21
        replace P1 := P1.below b21
        replace F2 := F2.below b21
        replace VX := VX.below b21
        replace VY := VY.below b21
        replace VS := VS.below b21
        replace VT := VT.below b21
        replace VU := VU.below b21
        replace BB := BB.trans (b21.mono BB.size)
        clear b21
        refine hK.out _ _ ?_ (fun hH5 => ?_)
        · exact ⟨VX.1, VX.2.1, VY.1, VY.2.1, VS.1, VS.2.1, VT.1, VT.2.1⟩
        clear hK K hH4
        (try simp only [Act.put, List.setIfInBounds_toArray, List.set_cons_zero, List.set_cons_succ])
        refine wpAnyH_ready (rs := [8]) (by kernel_rfl) (by simp) ?_
        refine AllReadyH.cons (by simp only [List.getElem?_toArray, List.getElem?_cons_succ, List.getElem?_cons_zero]; rfl) (fun K hK => ?_) AllReadyH.nil
        go_simp
        refine (rplus_any _ _ _ _ _ P1 P2 lxS lyT).mono ?_
        rintro e w22 ⟨ps, rfl, PS, b22⟩
        obtain ⟨pu, aou, nu, cu, rfl⟩ := PS.open
        go_wp2_with fail
        replace Qs := Qs.below b22
        replace Qt := Qt.below b22
        replace Jx := Jx.below b22
        replace Jy := Jy.below b22
        replace F1 := F1.below b22
        replace P1 := P1.below b22
        replace F2 := F2.below b22
        replace P2 := P2.below b22
        replace VX := VX.below b22
        replace VY := VY.below b22
        replace VS := VS.below b22
        replace VT := VT.below b22
        replace VU := VU.below b22
        replace BB := BB.trans (b22.mono BB.size)
        clear b22
        refine hK.out _ _ ?_ (fun hH6 => ?_)
        · exact ⟨VX.1, VX.2.1, VY.1, VY.2.1, VS.1, VS.2.1, VT.1, VT.2.1⟩
        clear hK K hH5
        (try simp only [Act.put, List.setIfInBounds_toArray, List.set_cons_zero, List.set_cons_succ])
        refine wpAnyH_ready (rs := [10]) (by kernel_rfl) (by simp) ?_
        refine AllReadyH.cons (by simp only [List.getElem?_toArray, List.getElem?_cons_succ, List.getElem?_cons_zero]; rfl) (fun K hK => ?_) AllReadyH.nil
        have hKp := VU.keepJ (.bool pu) (.slice aou nu cu)
        have VX_n := VX.other (R := R18) (by omega) (.bool pu) (.slice aou nu cu)
        have VY_n := VY.other (R := R18) (by omega) (.bool pu) (.slice aou nu cu)
        have VS_n := VS.other (R := R18) (by omega) (.bool pu) (.slice aou nu cu)
        have VT_n := VT.other (R := R18) (by omega) (.bool pu) (.slice aou nu cu)
        have VU_n := VU.same (.bool pu) (.slice aou nu cu)
        have Qs_n := Qs.keep hKp
        have Qt_n := Qt.keep hKp
        have Jx_n := Jx.keep hKp
        have Jy_n := Jy.keep hKp
        have F1_n := F1.keep hKp
        have P1_n := P1.keep hKp
        have F2_n := F2.keep hKp
        have P2_n := P2.keep hKp
        have PS_n := PS.keep hKp
        have BB_n := below_store2 (R := R18) BB (by omega) (.bool pu) (.slice aou nu cu)
        clear hKp
        obtain ⟨VU_0, VU_1, VU_2, VU_3⟩ := id VU
        go_simp
        clear VU_0 VU_1 VU_2 VU_3
        clear BB Qs Qt Jx Jy F1 P1 F2 P2 PS VX VY VS VT VU
        generalize (w22.setCell ⟨R18, 0, none⟩ (.bool pu)).setCell ⟨R18, 1, none⟩ (.slice aou nu cu) = W19 at *
        have BB := BB_n
        have Qs := Qs_n
        have Qt := Qt_n
        have Jx := Jx_n
        have Jy := Jy_n
        have F1 := F1_n
        have P1 := P1_n
        have F2 := F2_n
        have P2 := P2_n
        have PS := PS_n
        have VX := VX_n
        have VY := VY_n
        have VS := VS_n
        have VT := VT_n
        have VU := VU_n
        clear BB_n Qs_n Qt_n Jx_n Jy_n F1_n P1_n F2_n P2_n PS_n VX_n VY_n VS_n VT_n VU_n
        refine hK.out _ _ ?_ (fun hH7 => ?_)
        · exact ⟨VX.1, VX.2.1, VY.1, VY.2.1, VS.1, VS.2.1, VT.1, VT.2.1⟩
        clear hK K hH6
        (try simp only [Act.put, List.setIfInBounds_toArray, List.set_cons_zero, List.set_cons_succ])
        refine wpAnyH_done (by kernel_rfl) ?_ _
        clear hH7
        go_wp2_with fail
        go_meet
        exact ⟨R18, pu, aou, nu, cu, rfl, VU, PS, BB⟩
      exact AllReadyH.nil
    refine AllReadyH.cons (by simp only [List.getElem?_toArray, List.getElem?_cons_succ, List.getElem?_cons_zero]; rfl) (fun K hK => ?_) ?_
    ·
      go_simp
      have hZ20 : W8.heap.size ≤ W9.heap.size := BB.size
      have hN20VX : R3 ≠ W9.heap.size := Nat.ne_of_lt VX.lt
      have hN20VY : R4 ≠ W9.heap.size := Nat.ne_of_lt VY.lt
      have hN20VS : R9 + 1 ≠ W9.heap.size := Nat.ne_of_lt VS.lt
      have hN20VT : R9 + 1 + 1 ≠ W9.heap.size := Nat.ne_of_lt VT.lt
      obtain ⟨W20, hW20, hS20, hL20, VU⟩ := V2.lay W9 30 (.bool false) (.slice none 0 0)
      replace Qs := Qs.below hL20
      replace Qt := Qt.below hL20
      replace Jx := Jx.below hL20
      replace Jy := Jy.below hL20
      replace VX := VX.below hL20
      replace VY := VY.below hL20
      replace VS := VS.below hL20
      replace VT := VT.below hL20
      replace BB := BB.trans (hL20.mono BB.size)
      clear hL20
      rw [← hW20]
      generalize W9.heap.size = R20 at *
      clear hW20 hS20
      refine hK.out _ _ ?_ (fun hH1 => ?_)
      · exact ⟨VX.1, VX.2.1, VY.1, VY.2.1, VS.1, VS.2.1, VT.1, VT.2.1⟩
      clear hK K hHeld
      (try simp only [Act.put, List.setIfInBounds_toArray, List.set_cons_zero, List.set_cons_succ])
      refine wpAnyH_ready (rs := [2]) (by kernel_rfl) (by simp) ?_
      refine AllReadyH.cons (by simp only [List.getElem?_toArray, List.getElem?_cons_succ, List.getElem?_cons_zero]; rfl) (fun K hK => ?_) AllReadyH.nil
      go_simp
      refine (rfrom_any _ _ _ _ (Qs.at 320 lS) (by omega)).mono ?_
      rintro e w23 ⟨f1, rfl, F1, b23⟩
      go_wp2_with fail
      replace Qs := Qs.below b23
      replace Qt := Qt.below b23
      replace Jx := Jx.below b23
      replace Jy := Jy.below b23
      replace VX := VX.below b23
      replace VY := VY.below b23
      replace VS := VS.below b23
      replace VT := VT.below b23
      replace VU := VU.below b23
      replace BB := BB.trans (b23.mono BB.size)
      clear b23
      refine hK.out _ _ ?_ (fun hH2 => ?_)
      · exact ⟨VX.1, VX.2.1, VY.1, VY.2.1, VS.1, VS.2.1, VT.1, VT.2.1⟩
      clear hK K hH1
      (try simp only [Act.put, List.setIfInBounds_toArray, List.set_cons_zero, List.set_cons_succ])
      refine wpAnyH_ready (rs := [3]) (by kernel_rfl) (by simp) ?_
      refine AllReadyH.cons (by simp only [List.getElem?_toArray, List.getElem?_cons_succ, List.getElem?_cons_zero]; rfl) (fun K hK => ?_) AllReadyH.nil
      go_simp
      refine (rtimes_any _ _ _ _ _ Jx F1 lx1 lS1).mono ?_
      rintro e w24 ⟨p1, rfl, P1, b24⟩
      go_wp2_with fail
      replace Qs := Qs.below b24
      replace Qt := Qt.below b24
      replace Jx := Jx.below b24
      replace Jy := Jy.below b24
      replace F1 := F1.below b24
      replace VX := VX.below b24
      replace VY := VY.below b24
      replace VS := VS.below b24
      replace VT := VT.below b24
      replace VU := VU.below b24
      replace BB := BB.trans (b24.mono BB.size)
      clear b24
      refine hK.out _ _ ?_ (fun hH3 => ?_)
      · exact ⟨VX.1, VX.2.1, VY.1, VY.2.1, VS.1, VS.2.1, VT.1, VT.2.1⟩
      clear hK K hH2
      (try simp only [Act.put, List.setIfInBounds_toArray, List.set_cons_zero, List.set_cons_succ])
      refine wpAnyH_ready (rs := [6]) (by kernel_rfl) (by simp) ?_
      refine AllReadyH.cons (by simp only [List.getElem?_toArray, List.getElem?_cons_succ, List.getElem?_cons_zero]; rfl) (fun K hK => ?_) AllReadyH.nil
      go_simp
      refine (rfrom_any _ _ _ _ (Qt.at 700 lT) (by omega)).mono ?_
      rintro e w25 ⟨f2, rfl, F2, b25⟩
      go_wp2_with fail
      replace Qs := Qs.below b25
      replace Qt := Qt.below b25
      replace Jx := Jx.below b25
      replace Jy := Jy.below b25
      replace F1 := F1.below b25
      replace P1 := P1.below b25
      replace VX := VX.below b25
      replace VY := VY.below b25
      replace VS := VS.below b25
      replace VT := VT.below b25
      replace VU := VU.below b25
      replace BB := BB.trans (b25.mono BB.size)
      clear b25
      refine hK.out _ _ ?_ (fun hH4 => ?_)
      · exact ⟨VX.1, VX.2.1, VY.1, VY.2.1, VS.1, VS.2.1, VT.1, VT.2.1⟩
      clear hK K hH3
      (try simp only [Act.put, List.setIfInBounds_toArray, List.set_cons_zero, List.set_cons_succ])
      refine wpAnyH_ready (rs := [7]) (by kernel_rfl) (by simp) ?_
      refine AllReadyH.cons (by simp only [List.getElem?_toArray, List.getElem?_cons_succ, List.getElem?_cons_zero]; rfl) (fun K hK => ?_) AllReadyH.nil
      go_simp
      refine (rtimes_any _ _ _ _ _ Jy F2 ly1 lT1).mono ?_
      rintro e w26 ⟨p2, rfl, P2, b26⟩
      go_wp2_with fail
      replace Qs := Qs.below b26
      replace Qt := Qt.below b26
      replace Jx := Jx.below b26
      replace Jy := Jy.below b26
      replace F1 := F1.below b26
      replace P1 := P1.below b26
      replace F2 := F2.below b26
      replace VX := VX.below b26
      replace VY := VY.below b26
      replace VS := VS.below b26
      replace VT := VT.below b26
      replace VU := VU.below b26
      replace BB := BB.trans (b26.mono BB.size)
      clear b26
      refine hK.out _ _ ?_ (fun hH5 => ?_)
      · exact ⟨VX.1, VX.2.1, VY.1, VY.2.1, VS.1, VS.2.1, VT.1, VT.2.1⟩
      clear hK K hH4
      (try simp only [Act.put, List.setIfInBounds_toArray, List.set_cons_zero, List.set_cons_succ])
      refine wpAnyH_ready (rs := [8]) (by kernel_rfl) (by simp) ?_
      refine AllReadyH.cons (by simp only [List.getElem?_toArray, List.getElem?_cons_succ, List.getElem?_cons_zero]; rfl) (fun K hK => ?_) AllReadyH.nil
      go_simp
      refine (rplus_any _ _ _ _ _ P1 P2 lxS lyT).mono ?_
      rintro e w27 ⟨ps, rfl, PS, b27⟩
      obtain ⟨pu, aou, nu, cu, rfl⟩ := PS.open
      go_wp2_with fail
      replace Qs := Qs.below b27
      replace Qt := Qt.below b27
      replace Jx := Jx.below b27
      replace Jy := Jy.below b27
      replace F1 := F1.below b27
      replace P1 := P1.below b27
      replace F2 := F2.below b27
      replace P2 := P2.below b27
      replace VX := VX.below b27
      replace VY := VY.below b27
      replace VS := VS.below b27
      replace VT := VT.below b27
      replace VU := VU.below b27
      replace BB := BB.trans (b27.mono BB.size)
      clear b27
      refine hK.out _ _ ?_ (fun hH6 => ?_)
      · exact ⟨VX.1, VX.2.1, VY.1, VY.2.1, VS.1, VS.2.1, VT.1, VT.2.1⟩
      clear hK K hH5
      (try simp only [Act.put, List.setIfInBounds_toArray, List.set_cons_zero, List.set_cons_succ])
      refine wpAnyH_ready (rs := [10]) (by kernel_rfl) (by simp) ?_
      refine AllReadyH.cons (by simp only [List.getElem?_toArray, List.getElem?_cons_succ, List.getElem?_cons_zero]; rfl) (fun K hK => ?_) AllReadyH.nil
      have hKp := VU.keepJ (.bool pu) (.slice aou nu cu)
      have VX_n := VX.other (R := R20) (by omega) (.bool pu) (.slice aou nu cu)
      have VY_n := VY.other (R := R20) (by omega) (.bool pu) (.slice aou nu cu)
      have VS_n := VS.other (R := R20) (by omega) (.bool pu) (.slice aou nu cu)
      have VT_n := VT.other (R := R20) (by omega) (.bool pu) (.slice aou nu cu)
      have VU_n := VU.same (.bool pu) (.slice aou nu cu)
      have Qs_n := Qs.keep hKp
      have Qt_n := Qt.keep hKp
      have Jx_n := Jx.keep hKp
      have Jy_n := Jy.keep hKp
      have F1_n := F1.keep hKp
      have P1_n := P1.keep hKp
      have F2_n := F2.keep hKp
      have P2_n := P2.keep hKp
      have PS_n := PS.keep hKp
      have BB_n := below_store2 (R := R20) BB (by omega) (.bool pu) (.slice aou nu cu)
      clear hKp
      obtain ⟨VU_0, VU_1, VU_2, VU_3⟩ := id VU
      go_simp
      clear VU_0 VU_1 VU_2 VU_3
      clear BB Qs Qt Jx Jy F1 P1 F2 P2 PS VX VY VS VT VU
      generalize (w27.setCell ⟨R20, 0, none⟩ (.bool pu)).setCell ⟨R20, 1, none⟩ (.slice aou nu cu) = W21 at *
      have BB := BB_n
      have Qs := Qs_n
      have Qt := Qt_n
      have Jx := Jx_n
      have Jy := Jy_n
      have F1 := F1_n
      have P1 := P1_n
      have F2 := F2_n
      have P2 := P2_n
      have PS := PS_n
      have VX := VX_n
      have VY := VY_n
      have VS := VS_n
      have VT := VT_n
      have VU := VU_n
      clear BB_n Qs_n Qt_n Jx_n Jy_n F1_n P1_n F2_n P2_n PS_n VX_n VY_n VS_n VT_n VU_n
      refine hK.out _ _ ?_ (fun hH7 => ?_)
      · exact ⟨VX.1, VX.2.1, VY.1, VY.2.1, VS.1, VS.2.1, VT.1, VT.2.1⟩
      clear hK K hH6
      (try simp only [Act.put, List.setIfInBounds_toArray, List.set_cons_zero, List.set_cons_succ])
      refine wpAnyH_done (by kernel_rfl) ?_ _
      clear hH7
      go_wp2_with fail
      go_meet
      exact ⟨R20, pu, aou, nu, cu, rfl, VU, PS, BB⟩
    exact AllReadyH.nil
  case rest =>
    obtain ⟨RU, pu, aou, nu, cu, rfl, VU, JU, hbW⟩ := hcut
    replace hT := hT.below hbW
    replace Ix := Ix.below hbW
    replace Iy := Iy.below hbW
    replace Jx := Jx.below hbW
    replace Jy := Jy.below hbW
    replace Jg := Jg.below hbW
    replace Qh := Qh.below hbW
    replace Qs := Qs.below hbW
    replace Qt := Qt.below hbW
    replace VA := VA.below hbW
    replace VB := VB.below hbW
    replace VX := VX.below hbW
    replace VY := VY.below hbW
    replace VG := VG.below hbW
    replace VH := VH.below hbW
    replace VS := VS.below hbW
    replace VT := VT.below hbW
    replace BB := BB.trans (hbW.mono BB.size)
    clear hbW
    rw [HST.out] at JU
    have hc0 : (cmpI ((Nat.gcd x.natAbs y.natAbs : Nat) : Int) ((Nat.gcd x.natAbs y.natAbs : Nat) : Int) == 0) = true := by rw [cmpI_eq rfl]; rfl
    generalize hG : ((Nat.gcd x.natAbs y.natAbs : Nat) : Int) = G at *
    have HG : Hid (((Nat.gcd x.natAbs y.natAbs : Nat) : Int) = G) := hG
    clear hG
    go_wp2
    have hDr : Below wc.heap.size wc wc.drew := (Below.refl _ _).drew
    replace hT := hT.below hDr
    replace Ix := Ix.below hDr
    replace Iy := Iy.below hDr
    replace Jx := Jx.below hDr
    replace Jy := Jy.below hDr
    replace Jg := Jg.below hDr
    replace Qh := Qh.below hDr
    replace Qs := Qs.below hDr
    replace Qt := Qt.below hDr
    replace JU := JU.below hDr
    replace VA := VA.below hDr
    replace VB := VB.below hDr
    replace VX := VX.below hDr
    replace VY := VY.below hDr
    replace VG := VG.below hDr
    replace VH := VH.below hDr
    replace VS := VS.below hDr
    replace VT := VT.below hDr
    replace VU := VU.below hDr
    replace BB := BB.trans (hDr.mono BB.size)
    clear hDr
    refine wp_region_held_drew (S := (fun w' => w'.cell? ⟨w.heap.size, 0, none⟩ = some (.bool p) ∧ w'.cell? ⟨w.heap.size, 1, none⟩ = some (.slice ao n c) ∧ w'.cell? ⟨w.heap.size + 1, 0, none⟩ = some (.bool q) ∧ w'.cell? ⟨w.heap.size + 1, 1, none⟩ = some (.slice bo m d) ∧ w'.cell? ⟨R5, 0, none⟩ = some (.bool pg) ∧ w'.cell? ⟨R5, 1, none⟩ = some (.slice aog ng cg) ∧ w'.cell? ⟨R9, 0, none⟩ = some (.bool ph) ∧ w'.cell? ⟨R9, 1, none⟩ = some (.slice aoh nh ch) ∧ w'.cell? ⟨R9 + 1, 0, none⟩ = some (.bool ps) ∧ w'.cell? ⟨R9 + 1, 1, none⟩ = some (.slice aos ns cs) ∧ w'.cell? ⟨R9 + 1 + 1, 0, none⟩ = some (.bool pt) ∧ w'.cell? ⟨R9 + 1 + 1, 1, none⟩ = some (.slice aot nt ct) ∧ w'.cell? ⟨RU, 0, none⟩ = some (.bool pu) ∧ w'.cell? ⟨RU, 1, none⟩ = some (.slice aou nu cu))) (by kernel_rfl) ?_ (fun hHeld => ?_)
    · exact ⟨VA.1, VA.2.1, VB.1, VB.2.1, VG.1, VG.2.1, VH.1, VH.2.1, VS.1, VS.2.1, VT.1, VT.2.1, VU.1, VU.2.1⟩
    generalize wc.drew = W22 at *
    refine wpAnyH_take (i := 0) (v := ?_) (by simp only [List.getElem?_toArray, List.getElem?_cons_succ, List.getElem?_cons_zero]; rfl) (by kernel_rfl) (by kernel_rfl) (by kernel_rfl) (by exact fun _ _ _ h => h) (Or.inl ⟨by rfl, ?_⟩) (by assumption) ?_
    rotate_left
    · (intro w hSw; (try dsimp only at hSw); go_simp; (try with_reducible rfl))
    (try simp only [Act.put, List.setIfInBounds_toArray, List.set_cons_zero, List.set_cons_succ])
    refine wpAnyH_take (i := 1) (v := ?_) (by simp only [List.getElem?_toArray, List.getElem?_cons_succ, List.getElem?_cons_zero]; rfl) (by kernel_rfl) (by kernel_rfl) (by kernel_rfl) (by exact fun _ _ _ h => h) (Or.inl ⟨by rfl, ?_⟩) (by assumption) ?_
    rotate_left
    · (intro w hSw; (try dsimp only at hSw); go_simp; (try with_reducible rfl))
    (try simp only [Act.put, List.setIfInBounds_toArray, List.set_cons_zero, List.set_cons_succ])
    refine wpAnyH_take (i := 3) (v := ?_) (by simp only [List.getElem?_toArray, List.getElem?_cons_succ, List.getElem?_cons_zero]; rfl) (by kernel_rfl) (by kernel_rfl) (by kernel_rfl) (by exact fun _ _ _ h => h) (Or.inl ⟨by rfl, ?_⟩) (by assumption) ?_
    rotate_left
    · (intro w hSw; (try dsimp only at hSw); go_simp; (try with_reducible rfl))
    (try simp only [Act.put, List.setIfInBounds_toArray, List.set_cons_zero, List.set_cons_succ])
    refine wpAnyH_ready (rs := [2]) (by kernel_rfl) (by simp) ?_
    refine AllReadyH.cons (by simp only [List.getElem?_toArray, List.getElem?_cons_succ, List.getElem?_cons_zero]; rfl) (fun K hK => ?_) AllReadyH.nil
    go_simp
    refine (wgcd_any _ _ _ _ 6 6 _ Ix Iy (by omega) (by omega) hT).mono ?_
    rintro e w28 ⟨g1, rfl, Q1, b28⟩
    rw [HG.out] at Q1
    go_wp2_with fail
    replace hT := hT.below b28
    replace Ix := Ix.below b28
    replace Iy := Iy.below b28
    replace Jx := Jx.below b28
    replace Jy := Jy.below b28
    replace Jg := Jg.below b28
    replace Qh := Qh.below b28
    replace Qs := Qs.below b28
    replace Qt := Qt.below b28
    replace JU := JU.below b28
    replace VA := VA.below b28
    replace VB := VB.below b28
    replace VX := VX.below b28
    replace VY := VY.below b28
    replace VG := VG.below b28
    replace VH := VH.below b28
    replace VS := VS.below b28
    replace VT := VT.below b28
    replace VU := VU.below b28
    replace BB := BB.trans (b28.mono BB.size)
    clear b28
    refine hK.out _ _ ?_ (fun hH1 => ?_)
    · exact ⟨VA.1, VA.2.1, VB.1, VB.2.1, VG.1, VG.2.1, VH.1, VH.2.1, VS.1, VS.2.1, VT.1, VT.2.1, VU.1, VU.2.1⟩
    clear hK K hHeld
    (try simp only [Act.put, List.setIfInBounds_toArray, List.set_cons_zero, List.set_cons_succ])
    refine wpAnyH_ready (rs := [4]) (by kernel_rfl) (by simp) ?_
    refine AllReadyH.cons (by simp only [List.getElem?_toArray, List.getElem?_cons_succ, List.getElem?_cons_zero]; rfl) (fun K hK => ?_) AllReadyH.nil
    go_simp
    refine (ris_rep _ _ _ _ Q1 lG Jg).mono ?_
    rintro e w29 ⟨rfl, b29⟩
    go_wp2_with fail
    replace hT := hT.below b29
    replace Ix := Ix.below b29
    replace Iy := Iy.below b29
    replace Jx := Jx.below b29
    replace Jy := Jy.below b29
    replace Jg := Jg.below b29
    replace Qh := Qh.below b29
    replace Qs := Qs.below b29
    replace Qt := Qt.below b29
    replace JU := JU.below b29
    replace Q1 := Q1.below b29
    replace VA := VA.below b29
    replace VB := VB.below b29
    replace VX := VX.below b29
    replace VY := VY.below b29
    replace VG := VG.below b29
    replace VH := VH.below b29
    replace VS := VS.below b29
    replace VT := VT.below b29
    replace VU := VU.below b29
    replace BB := BB.trans (b29.mono BB.size)
    clear b29
    refine hK.out _ _ ?_ (fun hH2 => ?_)
    · exact ⟨VA.1, VA.2.1, VB.1, VB.2.1, VG.1, VG.2.1, VH.1, VH.2.1, VS.1, VS.2.1, VT.1, VT.2.1, VU.1, VU.2.1⟩
    clear hK K hH1
    (try simp only [Act.put, List.setIfInBounds_toArray, List.set_cons_zero, List.set_cons_succ])
    refine wpAnyH_take (i := 5) (v := ?_) (by simp only [List.getElem?_toArray, List.getElem?_cons_succ, List.getElem?_cons_zero]; rfl) (by kernel_rfl) (by kernel_rfl) (by kernel_rfl) (by exact fun _ _ _ h => h) (Or.inl ⟨by rfl, ?_⟩) (by assumption) ?_
    rotate_left
    · (intro w hSw; (try dsimp only at hSw); go_simp; (try with_reducible rfl))
    (try simp only [Act.put, List.setIfInBounds_toArray, List.set_cons_zero, List.set_cons_succ])
    refine wpAnyH_take (i := 6) (v := ?_) (by simp only [List.getElem?_toArray, List.getElem?_cons_succ, List.getElem?_cons_zero]; rfl) (by kernel_rfl) (by kernel_rfl) (by kernel_rfl) (by exact fun _ _ _ h => h) (Or.inl ⟨by rfl, ?_⟩) (by assumption) ?_
    rotate_left
    · (intro w hSw; (try dsimp only at hSw); go_simp; (try with_reducible rfl))
    (try simp only [Act.put, List.setIfInBounds_toArray, List.set_cons_zero, List.set_cons_succ])
    refine wpAnyH_take (i := 7) (v := ?_) (by simp only [List.getElem?_toArray, List.getElem?_cons_succ, List.getElem?_cons_zero]; rfl) (by kernel_rfl) (by kernel_rfl) (by kernel_rfl) (by exact fun _ _ _ h => h) (Or.inl ⟨by rfl, ?_⟩) (by assumption) ?_
    rotate_left
    · (intro w hSw; (try dsimp only at hSw); go_simp; (try with_reducible rfl))
    (try simp only [Act.put, List.setIfInBounds_toArray, List.set_cons_zero, List.set_cons_succ])
    refine wpAnyH_ready (rs := [8]) (by kernel_rfl) (by simp) ?_
    refine AllReadyH.cons (by simp only [List.getElem?_toArray, List.getElem?_cons_succ, List.getElem?_cons_zero]; rfl) (fun K hK => ?_) AllReadyH.nil
    go_simp
    refine (ris_rep _ _ _ _ Qh lG Jg).mono ?_
    rintro e w30 ⟨rfl, b30⟩
    go_wp2_with fail
    replace hT := hT.below b30
    replace Ix := Ix.below b30
    replace Iy := Iy.below b30
    replace Jx := Jx.below b30
    replace Jy := Jy.below b30
    replace Jg := Jg.below b30
    replace Qh := Qh.below b30
    replace Qs := Qs.below b30
    replace Qt := Qt.below b30
    replace JU := JU.below b30
    replace Q1 := Q1.below b30
    replace VA := VA.below b30
    replace VB := VB.below b30
    replace VX := VX.below b30
    replace VY := VY.below b30
    replace VG := VG.below b30
    replace VH := VH.below b30
    replace VS := VS.below b30
    replace VT := VT.below b30
    replace VU := VU.below b30
    replace BB := BB.trans (b30.mono BB.size)
    clear b30
    refine hK.out _ _ ?_ (fun hH3 => ?_)
    · exact ⟨VA.1, VA.2.1, VB.1, VB.2.1, VG.1, VG.2.1, VH.1, VH.2.1, VS.1, VS.2.1, VT.1, VT.2.1, VU.1, VU.2.1⟩
    clear hK K hH2
    (try simp only [Act.put, List.setIfInBounds_toArray, List.set_cons_zero, List.set_cons_succ])
    refine wpAnyH_take (i := 9) (v := ?_) (by simp only [List.getElem?_toArray, List.getElem?_cons_succ, List.getElem?_cons_zero]; rfl) (by kernel_rfl) (by kernel_rfl) (by kernel_rfl) (by exact fun _ _ _ h => h) (Or.inl ⟨by rfl, ?_⟩) (by assumption) ?_
    rotate_left
    · (intro w hSw; (try dsimp only at hSw); go_simp; (try with_reducible rfl))
    (try simp only [Act.put, List.setIfInBounds_toArray, List.set_cons_zero, List.set_cons_succ])
    refine wpAnyH_take (i := 10) (v := ?_) (by simp only [List.getElem?_toArray, List.getElem?_cons_succ, List.getElem?_cons_zero]; rfl) (by kernel_rfl) (by kernel_rfl) (by kernel_rfl) (by exact fun _ _ _ h => h) (Or.inl ⟨by rfl, ?_⟩) (by assumption) ?_
    rotate_left
    · (intro w hSw; (try dsimp only at hSw); go_simp; (try with_reducible rfl))
    (try simp only [Act.put, List.setIfInBounds_toArray, List.set_cons_zero, List.set_cons_succ])
    refine wpAnyH_take (i := 11) (v := ?_) (by simp only [List.getElem?_toArray, List.getElem?_cons_succ, List.getElem?_cons_zero]; rfl) (by kernel_rfl) (by kernel_rfl) (by kernel_rfl) (by exact fun _ _ _ h => h) (Or.inl ⟨by rfl, ?_⟩) (by assumption) ?_
    rotate_left
    · (intro w hSw; (try dsimp only at hSw); go_simp; (try with_reducible rfl))
    (try simp only [Act.put, List.setIfInBounds_toArray, List.set_cons_zero, List.set_cons_succ])
    refine wpAnyH_ready (rs := [12]) (by kernel_rfl) (by simp) ?_
    refine AllReadyH.cons (by simp only [List.getElem?_toArray, List.getElem?_cons_succ, List.getElem?_cons_zero]; rfl) (fun K hK => ?_) AllReadyH.nil
    go_simp
    refine (wright_rep _ _ _ Qs).mono ?_
    rintro e w31 ⟨rfl, b31⟩
    go_wp2_with fail
    replace hT := hT.below b31
    replace Ix := Ix.below b31
    replace Iy := Iy.below b31
    replace Jx := Jx.below b31
    replace Jy := Jy.below b31
    replace Jg := Jg.below b31
    replace Qh := Qh.below b31
    replace Qs := Qs.below b31
    replace Qt := Qt.below b31
    replace JU := JU.below b31
    replace Q1 := Q1.below b31
    replace VA := VA.below b31
    replace VB := VB.below b31
    replace VX := VX.below b31
    replace VY := VY.below b31
    replace VG := VG.below b31
    replace VH := VH.below b31
    replace VS := VS.below b31
    replace VT := VT.below b31
    replace VU := VU.below b31
    replace BB := BB.trans (b31.mono BB.size)
    clear b31
    refine hK.out _ _ ?_ (fun hH4 => ?_)
    · exact ⟨VA.1, VA.2.1, VB.1, VB.2.1, VG.1, VG.2.1, VH.1, VH.2.1, VS.1, VS.2.1, VT.1, VT.2.1, VU.1, VU.2.1⟩
    clear hK K hH3
    (try simp only [Act.put, List.setIfInBounds_toArray, List.set_cons_zero, List.set_cons_succ])
    refine wpAnyH_take (i := 13) (v := ?_) (by simp only [List.getElem?_toArray, List.getElem?_cons_succ, List.getElem?_cons_zero]; rfl) (by kernel_rfl) (by kernel_rfl) (by kernel_rfl) (by exact fun _ _ _ h => h) (Or.inl ⟨by rfl, ?_⟩) (by assumption) ?_
    rotate_left
    · (intro w hSw; (try dsimp only at hSw); go_simp; (try with_reducible rfl))
    (try simp only [Act.put, List.setIfInBounds_toArray, List.set_cons_zero, List.set_cons_succ])
    refine wpAnyH_take (i := 14) (v := ?_) (by simp only [List.getElem?_toArray, List.getElem?_cons_succ, List.getElem?_cons_zero]; rfl) (by kernel_rfl) (by kernel_rfl) (by kernel_rfl) (by exact fun _ _ _ h => h) (Or.inl ⟨by rfl, ?_⟩) (by assumption) ?_
    rotate_left
    · (intro w hSw; (try dsimp only at hSw); go_simp; (try with_reducible rfl))
    (try simp only [Act.put, List.setIfInBounds_toArray, List.set_cons_zero, List.set_cons_succ])
    refine wpAnyH_take (i := 15) (v := ?_) (by simp only [List.getElem?_toArray, List.getElem?_cons_succ, List.getElem?_cons_zero]; rfl) (by kernel_rfl) (by kernel_rfl) (by kernel_rfl) (by exact fun _ _ _ h => h) (Or.inl ⟨by rfl, ?_⟩) (by assumption) ?_
    rotate_left
    · (intro w hSw; (try dsimp only at hSw); go_simp; (try with_reducible rfl))
    (try simp only [Act.put, List.setIfInBounds_toArray, List.set_cons_zero, List.set_cons_succ])
    refine wpAnyH_ready (rs := [16]) (by kernel_rfl) (by simp) ?_
    refine AllReadyH.cons (by simp only [List.getElem?_toArray, List.getElem?_cons_succ, List.getElem?_cons_zero]; rfl) (fun K hK => ?_) AllReadyH.nil
    go_simp
    refine (wright_rep _ _ _ Qt).mono ?_
    rintro e w32 ⟨rfl, b32⟩
    go_wp2_with fail
    replace hT := hT.below b32
    replace Ix := Ix.below b32
    replace Iy := Iy.below b32
    replace Jx := Jx.below b32
    replace Jy := Jy.below b32
    replace Jg := Jg.below b32
    replace Qh := Qh.below b32
    replace Qs := Qs.below b32
    replace Qt := Qt.below b32
    replace JU := JU.below b32
    replace Q1 := Q1.below b32
    replace VA := VA.below b32
    replace VB := VB.below b32
    replace VX := VX.below b32
    replace VY := VY.below b32
    replace VG := VG.below b32
    replace VH := VH.below b32
    replace VS := VS.below b32
    replace VT := VT.below b32
    replace VU := VU.below b32
    replace BB := BB.trans (b32.mono BB.size)
    clear b32
    refine hK.out _ _ ?_ (fun hH5 => ?_)
    · exact ⟨VA.1, VA.2.1, VB.1, VB.2.1, VG.1, VG.2.1, VH.1, VH.2.1, VS.1, VS.2.1, VT.1, VT.2.1, VU.1, VU.2.1⟩
    clear hK K hH4
    (try simp only [Act.put, List.setIfInBounds_toArray, List.set_cons_zero, List.set_cons_succ])
    refine wpAnyH_take (i := 17) (v := ?_) (by simp only [List.getElem?_toArray, List.getElem?_cons_succ, List.getElem?_cons_zero]; rfl) (by kernel_rfl) (by kernel_rfl) (by kernel_rfl) (by exact fun _ _ _ h => h) (Or.inl ⟨by rfl, ?_⟩) (by assumption) ?_
    rotate_left
    · (intro w hSw; (try dsimp only at hSw); go_simp; (try with_reducible rfl))
    (try simp only [Act.put, List.setIfInBounds_toArray, List.set_cons_zero, List.set_cons_succ])
    refine wpAnyH_take (i := 18) (v := ?_) (by simp only [List.getElem?_toArray, List.getElem?_cons_succ, List.getElem?_cons_zero]; rfl) (by kernel_rfl) (by kernel_rfl) (by kernel_rfl) (by exact fun _ _ _ h => h) (Or.inl ⟨by rfl, ?_⟩) (by assumption) ?_
    rotate_left
    · (intro w hSw; (try dsimp only at hSw); go_simp; (try with_reducible rfl))
    (try simp only [Act.put, List.setIfInBounds_toArray, List.set_cons_zero, List.set_cons_succ])
    refine wpAnyH_take (i := 19) (v := ?_) (by simp only [List.getElem?_toArray, List.getElem?_cons_succ, List.getElem?_cons_zero]; rfl) (by kernel_rfl) (by kernel_rfl) (by kernel_rfl) (by exact fun _ _ _ h => h) (Or.inl ⟨by rfl, ?_⟩) (by assumption) ?_
    rotate_left
    · (intro w hSw; (try dsimp only at hSw); go_simp; (try with_reducible rfl))
    (try simp only [Act.put, List.setIfInBounds_toArray, List.set_cons_zero, List.set_cons_succ])
    refine wpAnyH_take (i := 20) (v := ?_) (by simp only [List.getElem?_toArray, List.getElem?_cons_succ, List.getElem?_cons_zero]; rfl) (by kernel_rfl) (by kernel_rfl) (by kernel_rfl) (by exact fun _ _ _ h => h) (Or.inl ⟨by rfl, ?_⟩) (by assumption) ?_
    rotate_left
    · (intro w hSw; (try dsimp only at hSw); go_simp; (try with_reducible rfl))
    (try simp only [Act.put, List.setIfInBounds_toArray, List.set_cons_zero, List.set_cons_succ])
    refine wpAnyH_ready (rs := [21]) (by kernel_rfl) (by simp) ?_
    refine AllReadyH.cons (by simp only [List.getElem?_toArray, List.getElem?_cons_succ, List.getElem?_cons_zero]; rfl) (fun K hK => ?_) AllReadyH.nil
    go_simp
    refine (rorder_any _ _ _ _ _ JU Jg).mono ?_
    rintro e w33 ⟨rfl, b33⟩
    go_wp2_with fail
    replace hT := hT.below b33
    replace Ix := Ix.below b33
    replace Iy := Iy.below b33
    replace Jx := Jx.below b33
    replace Jy := Jy.below b33
    replace Jg := Jg.below b33
    replace Qh := Qh.below b33
    replace Qs := Qs.below b33
    replace Qt := Qt.below b33
    replace JU := JU.below b33
    replace Q1 := Q1.below b33
    replace VA := VA.below b33
    replace VB := VB.below b33
    replace VX := VX.below b33
    replace VY := VY.below b33
    replace VG := VG.below b33
    replace VH := VH.below b33
    replace VS := VS.below b33
    replace VT := VT.below b33
    replace VU := VU.below b33
    replace BB := BB.trans (b33.mono BB.size)
    clear b33
    refine hK.out _ _ ?_ (fun hH6 => ?_)
    · exact ⟨VA.1, VA.2.1, VB.1, VB.2.1, VG.1, VG.2.1, VH.1, VH.2.1, VS.1, VS.2.1, VT.1, VT.2.1, VU.1, VU.2.1⟩
    clear hK K hH5
    (try simp only [Act.put, List.setIfInBounds_toArray, List.set_cons_zero, List.set_cons_succ])
    refine wpAnyH_take (i := 22) (v := ?_) (by simp only [List.getElem?_toArray, List.getElem?_cons_succ, List.getElem?_cons_zero]; rfl) (by kernel_rfl) (by kernel_rfl) (by kernel_rfl) (by exact fun _ _ _ h => h) (Or.inl ⟨by rfl, ?_⟩) (by assumption) ?_
    rotate_left
    · (intro w hSw; (try dsimp only at hSw); go_simp; (try with_reducible rfl))
    (try simp only [Act.put, List.setIfInBounds_toArray, List.set_cons_zero, List.set_cons_succ])
    refine wpAnyH_take (i := 23) (v := ?_) (by simp only [List.getElem?_toArray, List.getElem?_cons_succ, List.getElem?_cons_zero]; rfl) (by kernel_rfl) (by kernel_rfl) (by kernel_rfl) (by exact fun _ _ _ h => h) (Or.inl ⟨by rfl, ?_⟩) (by assumption) ?_
    rotate_left
    · (intro w hSw; (try dsimp only at hSw); go_simp; (try with_reducible rfl))
    (try simp only [Act.put, List.setIfInBounds_toArray, List.set_cons_zero, List.set_cons_succ])
    refine wpAnyH_take (i := 24) (v := ?_) (by simp only [List.getElem?_toArray, List.getElem?_cons_succ, List.getElem?_cons_zero]; rfl) (by kernel_rfl) (by kernel_rfl) (by kernel_rfl) (by exact fun _ _ _ h => h) (Or.inl ⟨by rfl, ?_⟩) (by assumption) ?_
    rotate_left
    · (intro w hSw; (try dsimp only at hSw); go_simp; (try with_reducible rfl))
    (try simp only [Act.put, List.setIfInBounds_toArray, List.set_cons_zero, List.set_cons_succ])
    refine wpAnyH_ready (rs := [25]) (by kernel_rfl) (by simp) ?_
    refine AllReadyH.cons (by simp only [List.getElem?_toArray, List.getElem?_cons_succ, List.getElem?_cons_zero]; rfl) (fun K hK => ?_) AllReadyH.nil
    go_simp
    refine (wawake_any _).mono ?_
    rintro e w34 ⟨rfl, b34⟩
    go_wp2_with fail
    replace hT := hT.below b34
    replace Ix := Ix.below b34
    replace Iy := Iy.below b34
    replace Jx := Jx.below b34
    replace Jy := Jy.below b34
    replace Jg := Jg.below b34
    replace Qh := Qh.below b34
    replace Qs := Qs.below b34
    replace Qt := Qt.below b34
    replace JU := JU.below b34
    replace Q1 := Q1.below b34
    replace VA := VA.below b34
    replace VB := VB.below b34
    replace VX := VX.below b34
    replace VY := VY.below b34
    replace VG := VG.below b34
    replace VH := VH.below b34
    replace VS := VS.below b34
    replace VT := VT.below b34
    replace VU := VU.below b34
    replace BB := BB.trans (b34.mono BB.size)
    clear b34
    refine hK.out _ _ ?_ (fun hH7 => ?_)
    · exact ⟨VA.1, VA.2.1, VB.1, VB.2.1, VG.1, VG.2.1, VH.1, VH.2.1, VS.1, VS.2.1, VT.1, VT.2.1, VU.1, VU.2.1⟩
    clear hK K hH6
    (try simp only [Act.put, List.setIfInBounds_toArray, List.set_cons_zero, List.set_cons_succ])
    refine wpAnyH_take (i := 26) (v := ?_) (by simp only [List.getElem?_toArray, List.getElem?_cons_succ, List.getElem?_cons_zero]; rfl) (by kernel_rfl) (by kernel_rfl) (by kernel_rfl) (by exact fun _ _ _ h => h) (Or.inl ⟨by rfl, ?_⟩) (by assumption) ?_
    rotate_left
    · (intro w hSw; (try dsimp only at hSw); go_simp; (try with_reducible rfl))
    (try simp only [Act.put, List.setIfInBounds_toArray, List.set_cons_zero, List.set_cons_succ])
    refine wpAnyH_take (i := 27) (v := ?_) (by simp only [List.getElem?_toArray, List.getElem?_cons_succ, List.getElem?_cons_zero]; rfl) (by kernel_rfl) (by kernel_rfl) (by kernel_rfl) (by exact fun _ _ _ h => h) (Or.inl ⟨by rfl, ?_⟩) (by assumption) ?_
    rotate_left
    · (intro w hSw; (try dsimp only at hSw); go_simp; (try with_reducible rfl))
    (try simp only [Act.put, List.setIfInBounds_toArray, List.set_cons_zero, List.set_cons_succ])
    refine wpAnyH_done (by kernel_rfl) ?_ _
    clear hH7
    go_wp2
    go_ret
    exact ⟨rfl, BB⟩

theorem own : ownKnob Tryd.prog.godebug = none := by kernel_rfl
theorem laidOut : laidOutB Tryd.prog = true := by kernel_rfl

abbrev laid1 : List (String × DataW Unit) := [("math/bits.deBruijn64tab", Rows.laid_math_bits_deBruijn64tab)]
theorem gTab : Tryd.prog.globalNamed "math/bits.deBruijn64tab" = some 0 := by kernel_rfl
theorem gTabType : (Tryd.prog.globals[0]?).map (·.type) = some 99 := by kernel_rfl
theorem uTab : Tryd.prog.underlying 99 = some (.array 64 5) := by kernel_rfl
theorem uCell : Tryd.prog.underlying 5 = some (.int .u8) := by kernel_rfl
theorem cCell : Tryd.prog.cellsOf 5 = 1 := by kernel_rfl
theorem cTab : Tryd.prog.cellsOf 99 = 64 := by kernel_rfl
/-- The listed table lies in its cells. -/
theorem tab_of {W : World} (h : laidMetH Tryd.prog laid1 W) : Tab W := by
  rw [MakeChecks.laidMetH_plain _ _ _ (by kernel_rfl)] at h
  have hd : laid1 = [("math/bits.deBruijn64tab", Lib.tabData .u8 (Lib.deBruijn64tab.map fun (n : Nat) => Int.ofNat n))] := rfl
  rw [hd] at h
  have hT := Lib.tabIs_of_head gTab gTabType uTab uCell cCell cTab h
  intro i hi
  have hc := hT.cell gTab i (by rw [List.length_map]; exact hi)
  rw [hc]
  congr 2
  rw [List.getD_eq_getElem?_getD, List.getElem?_map, List.getD_eq_getElem?_getD]
  cases Lib.deBruijn64tab[i]? <;> rfl
/-- A start for the witness: the heap that the run of the program's own initialisers leaves. -/
noncomputable def startW (os : Os) : World := { World.holding Tryd.prog os ⟨#[], #[], []⟩ with heap := (varsWorld Tryd.prog 400 (varsId Tryd.prog) os (fun _ _ => 0)).heap }
theorem start_met (os : Os) (args : Array Value) : laidMetH Tryd.prog laid1 ((startW os).forCall (fun _ _ => 0) ⟨#[], args, []⟩).memory :=
  laidMetH_of_parts3 (fuel := 8) (laidMet_of_run' 8 (by kernel_rfl) (by kernel_rfl)) (by kernel_rfl) (by kernel_rfl)

set_option maxRecDepth 100000 in
theorem lifted (os : Os) (started : os.Started) (H : Type) (enc : TypeId × Value → H) :
    ReturnsInHanded {} Tryd.checked os 3 .any (fun w args => (Rows.wholeGcdsSpec.pre enc Tryd.prog Tryd.f3 [] false w args ∧ laidMetH Tryd.prog laid1 w) ∧ sizedMet enc Tryd.prog Tryd.f3 (OpenSpec.ofChange Rows.wholeGcdsSpec) false w args) (Rows.wholeGcdsSpec.post enc Tryd.prog Tryd.f3 false true false false) := by
  refine returnsInHanded_of_change_and (C := Tryd.checked) (X := fun w _ => laidMetH Tryd.prog laid1 w) (fun _ _ _ hh h => h.of_heap hh) own started (by kernel_rfl) Tryd.func3
    (ChangeSpec.witness_shaped (enc := enc) (C := Tryd.checked) (os := os) (X := fun w _ => laidMetH Tryd.prog laid1 w) false (startW os) #[.agg #[.bool false, .slice none 0 0], .agg #[.bool false, .slice none 0 0]] 8 rfl (World.shaped_of_RefB (by kernel_rfl) (by kernel_rfl)) (by kernel_rfl) (by kernel_rfl) (by kernel_rfl) (start_met os _)) ?_
  intro W base args ds gs before hval0 hW _ _ hL _
  have hval : ∀ (j : Nat) t v, Tryd.f3.params[j]? = some t → args[j]? = some v → Value.okWide Tryd.prog W .any base t v := hval0
  have hW' := hW
  obtain ⟨p, q, hA0, hV, rfl, hfz, hnd⟩ := hW
  have hA : DataW.TrodAll enc Tryd.prog W 0 (fun _ => true) true Tryd.f3.params.toList args.toList ds p := hA0
  rw [Tryd.params3] at hA hval
  obtain ⟨v0, vs0, d0, ds0, p0, q0, hargs, rfl, rfl, h0, r0⟩ := trodAll_cons hA
  obtain ⟨v1, vs1, d1, ds1, p1, q1, rfl, rfl, rfl, h1, r1⟩ := trodAll_cons r0
  obtain ⟨rfl, rfl, rfl⟩ := trodAll_nil r1
  obtain rfl : args = #[v0, v1] := by cases args; simp_all
  obtain ⟨rfl, rfl⟩ := trodVars_none hV
  have k0 := h0
  have lt0 : ∀ x ∈ p0, x.block < W.heap.size := by obtain ⟨m, hm⟩ := k0; exact DataW.trod_lt m _ _ _ hm
  obtain ⟨neg0, ao0, n0, c0, f0, rfl, w0⟩ := open_wint (hval 0 25 v0 rfl rfl) h0
  have k1 := h1
  have lt1 : ∀ x ∈ p1, x.block < W.heap.size := by obtain ⟨m, hm⟩ := k1; exact DataW.trod_lt m _ _ _ hm
  obtain ⟨neg1, ao1, n1, c1, f1, rfl, w1⟩ := open_wint (hval 1 25 v1 rfl rfl) h1
  clear hA0 hval0
  refine (walk _ _ _ _ _ _ _ _ W w0 w1 (tab_of hL)).mono fun e W' ⟨he, bel⟩ => ?_
  subst he
  exact ⟨_, rfl, _, _, _, [], _, [], hW', trodAll_mk1 (shut_bool Tryd.underlying4 _), (trodAll_cons_mk (Below.trod laidOut (by kernel_rfl) (of_decide_eq_true (by kernel_rfl)) k0 bel lt0) (trodAll_cons_mk (Below.trod laidOut (by kernel_rfl) (of_decide_eq_true (by kernel_rfl)) k1 bel lt1) trodAll_mk0)), rfl, bel.frame _, fun h => by cases h⟩

theorem over : Rows.wholeGcdsRow.holds Tryd.pinned (OpenSpec.ofChange Rows.wholeGcdsSpec) :=
  OpenClaim.holds_of_wide 3 Tryd.f3 rfl rfl rfl rfl rfl rfl rfl ⟨rfl, rfl, rfl, rfl, rfl⟩ rfl rfl rfl rfl rfl (by kernel_rfl) Tryd.func3 (by kernel_rfl)
    (of_decide_eq_true (by kernel_rfl)) (by unfold Func.isWrapper; first | (rw [if_pos (by decide +kernel)]; kernel_rfl) | (rw [if_neg (by decide +kernel)]; exact ⟨rfl, rfl⟩))
    (fun os started H enc _ => lifted os started H enc)

end Go.Proofs.YtjfacmeeplalkaaDoor.wholeGcds
namespace Go.Proofs.YtjfacmeeplalkaaDoor
/-- The statement: the row, tied to the text of the program. -/
theorem wholeGcds_holds : Rows.WholeGcdsCardSaid :=
  Claim7.holds_tied_plain_at .later [] [.data] true (true, "df60c005182ab2178289f6afa78c24630eddf724e1de201e01af05aaa1737cac") false
    wholeGcds.over (fun _ h => by cases h) (by kernel_rfl) (fun _ h => by cases h) wholeGcds_row_tie rfl ⟨rfl, rfl⟩ (by kernel_rfl) rfl
    (fun f fn hf hfn => by
      obtain rfl : f = 3 := Option.some.inj ((show Tryd.prog.funcNamed "dendron/dendronlaw02.WholeGcds" = some 3 by kernel_rfl).symm.trans hf) |>.symm
      obtain rfl : fn = Tryd.f3 := (Option.some.inj (Tryd.func3.symm.trans hfn)).symm
      exact ⟨by kernel_rfl, fun j t ht => by
        rw [Tryd.params3] at ht
        have hm : t ∈ [25, 25] := by simpa using Array.mem_of_getElem? ht
        have hall : ([25, 25].all fun u => !Tryd.prog.wantsStandIn u) = true := by kernel_rfl
        exact (show Tryd.prog.wantsStandIn t = false by simpa using List.all_eq_true.1 hall t hm)⟩)
    (by kernel_rfl)
end Go.Proofs.YtjfacmeeplalkaaDoor
