/-
 Proves that Make answers the number of any two whole numbers of up to 8 limbs each, or that there is none, and Zero, One, Of, Int and Frac the small numbers, whatever comes in (the statement RatioMakes, its tied card); the table of math/bits lies as the program's text lays it; no other condition.
-/
import Derived.Test.YtjfacmeeplalkaaGreatDoorJ830739062d
import Derived.Test.YtjfacmeeplalkaaGreatDoorRows
import Derived.Test.YtjfacmeeplalkaaGreatDoorJ84316a709d
import Derived.WalkKit
import Derived.ProofKit
import Derived.OpenShut
import Derived.ShutString
import Derived.ChangeOld
import Derived.Below
import Derived.Test.YtjfacmeeplalkaaGreatDoorTie
import Derived.Test.YtjfacmeeplalkaaGreatDoorCards
import Derived.LaidByTextLater
import Derived.LaidHandle
import Derived.Lib.LaidTab
import Derived.SevenTiedAt
namespace Go.Proofs.YtjfacmeeplalkaaGreatDoor.ratioMakes
open Go.ChangeShapes Go.WideShapes Go.ChangeAt Go.RowKit
open Go.ChangeMaps (open_string shut_string)
set_option linter.unusedVariables false
set_option linter.unusedSimpArgs false

set_option linter.unusedSimpArgs false
theorem field0 (p : Bool) (a b : Value) (w : World) : Sem.run Tryz.prog (Instr.field 27 (.agg #[.bool p, a, b]) 0) w = .ok (.agg #[.bool p, a]) w := by kernel_rfl
set_option maxRecDepth 100000 in
set_option maxHeartbeats 16000000 in
theorem walk (p : Bool) (s : Value) (n0 : Nat) (f : Nat → Int) (p2 : Bool) (t : Value) (n20 : Nat) (f2 : Nat → Int) (k l : Int) (w : World) (ha : Raw w s n0 f) (hb : Raw w t n20 f2) (wk : (Lit.int .i64 k).wf = true) (wl : (Lit.int .i64 l).wf = true) (ht : Tab w) :
  Calls Tryz.prog 4 #[.agg #[.bool p, s], .agg #[.bool p2, t], .int .i64 k, .int .i64 l] w fun e w' => e = .returned (.bool true) ∧ Below w.heap.size w w' := by
 obtain ⟨ao0, c0, rfl⟩ : ∃ ao c, s = .slice ao n0 c := by obtain ⟨ao, c, h, _⟩ := ha; exact ⟨ao, c, h⟩
 obtain ⟨ao20, c20, rfl⟩ : ∃ ao c, t = .slice ao n20 c := by obtain ⟨ao, c, h, _⟩ := hb; exact ⟨ao, c, h⟩
 have hkb := bounds_i64 wk
 have hlb := bounds_i64 wl
 clear wk wl
 have BB : Below w.heap.size w w := Below.refl _ _
 obtain ⟨Wb0, hW0, hS0, hL0, VA⟩ := V2.lay w 25 (.bool p) (.slice ao0 n0 c0)
 replace ha := ha.below hL0
 replace hb := hb.below hL0
 replace ht := ht.below hL0
 replace BB := BB.trans (hL0.mono BB.size)
 clear hL0
 obtain ⟨Wb1, hW1, hS1, hL1, VB⟩ := V2.lay Wb0 25 (.bool p2) (.slice ao20 n20 c20)
 rw [hS0] at VB hS1
 replace ha := ha.below hL1
 replace hb := hb.below hL1
 replace ht := ht.below hL1
 replace VA := VA.below hL1
 replace BB := BB.trans (hL1.mono BB.size)
 clear hL1
 go_enter Tryz.func4, Tryz.ntmps4
 go_wp2_with fail
 rw [← hW0]
 rw [← hW1]
 clear hW0 hW1 hS0 hS1
 refine (few_at _ _ _ _ _ _ _ _ ha (raw_nil _)).mono ?_
 rintro e w1 ⟨ao, c, bo, d, rfl, u1, u2, u3, u4, b1⟩
 replace ha := ha.below b1
 replace hb := hb.below b1
 replace ht := ht.below b1
 replace VA := VA.below b1
 replace VB := VB.below b1
 replace BB := BB.trans (b1.mono BB.size)
 clear b1
 have k1 : min n0 8 ≤ 8 := Nat.min_le_right _ _
 generalize min n0 8 = n at *
 clear u3 u4
 clear ha
 have hKp := VA.keepJ (.bool p) (.slice ao n c)
 have VB_n := VB.other (R := w.heap.size) (by omega) (.bool p) (.slice ao n c)
 have VA_n := VA.same (.bool p) (.slice ao n c)
 have hb_n := hb.keep hKp
 have ht_n := ht.keep hKp
 have u1_n := u1.keep hKp
 have BB_n := below_store2 (R := w.heap.size) BB (by omega) (.bool p) (.slice ao n c)
 clear hKp
 obtain ⟨VA_0, VA_1, VA_2, VA_3⟩ := id VA
 obtain ⟨VB_n0, VB_n1, VB_n2, VB_n3⟩ := id VB_n
 go_wp2_with fail
 rw [field0]
 go_wp2_with fail
 clear VA_0 VA_1 VA_2 VA_3 VB_n0 VB_n1 VB_n2 VB_n3
 clear BB hb ht u1 VA VB
 generalize (w1.setCell ⟨w.heap.size, 0, none⟩ (.bool p)).setCell ⟨w.heap.size, 1, none⟩ (.slice ao n c) = W1 at *
 have BB := BB_n
 have hb := hb_n
 have ht := ht_n
 have u1 := u1_n
 have VA := VA_n
 have VB := VB_n
 clear BB_n hb_n ht_n u1_n VA_n VB_n
 refine (few_at _ _ _ _ _ _ _ _ hb (raw_nil _)).mono ?_
 rintro e w2 ⟨ao2, c2, bo2, d2, rfl, u5, u6, u7, u8, b2⟩
 replace hb := hb.below b2
 replace ht := ht.below b2
 replace u1 := u1.below b2
 replace VA := VA.below b2
 replace VB := VB.below b2
 replace BB := BB.trans (b2.mono BB.size)
 clear b2
 have k3 : min n20 8 ≤ 8 := Nat.min_le_right _ _
 generalize min n20 8 = n2 at *
 clear u7 u8
 clear hb
 have hKp := VB.keepJ (.bool p2) (.slice ao2 n2 c2)
 have VA_n := VA.other (R := w.heap.size + 1) (by omega) (.bool p2) (.slice ao2 n2 c2)
 have VB_n := VB.same (.bool p2) (.slice ao2 n2 c2)
 have ht_n := ht.keep hKp
 have u1_n := u1.keep hKp
 have u5_n := u5.keep hKp
 have BB_n := below_store2 (R := w.heap.size + 1) BB (by omega) (.bool p2) (.slice ao2 n2 c2)
 clear hKp
 obtain ⟨VB_0, VB_1, VB_2, VB_3⟩ := id VB
 obtain ⟨VA_n0, VA_n1, VA_n2, VA_n3⟩ := id VA_n
 go_wp2_with fail
 rw [field0]
 go_wp2_with fail
 clear VB_0 VB_1 VB_2 VB_3 VA_n0 VA_n1 VA_n2 VA_n3
 clear BB ht u1 u5 VA VB
 generalize (w2.setCell ⟨w.heap.size + 1, 0, none⟩ (.bool p2)).setCell ⟨w.heap.size + 1, 1, none⟩ (.slice ao2 n2 c2) = W2 at *
 have BB := BB_n
 have ht := ht_n
 have u1 := u1_n
 have u5 := u5_n
 have VA := VA_n
 have VB := VB_n
 clear BB_n ht_n u1_n u5_n VA_n VB_n
 have Ix : IntAt W2 (.agg #[.bool p, .slice ao n c]) (zof p (num f n)) 8 := ⟨_, _, _, _, _, rfl, u1, u2, rfl, k1⟩
 have Iy : IntAt W2 (.agg #[.bool p2, .slice ao2 n2 c2]) (zof p2 (num f2 n2)) 8 := ⟨_, _, _, _, _, rfl, u5, u6, rfl, k3⟩
 clear u1 u5
 generalize zof p (num f n) = a at *
 generalize zof p2 (num f2 n2) = b at *
 have la := Ix.nl
 have lb := Iy.nl
 have lk : nl W32 k.natAbs ≤ 2 := (nl_two _).2 (by omega)
 have ll : nl W32 l.natAbs ≤ 2 := (nl_two _).2 (by omega)
 have HM1 : Hid (∀ z : Int, mkRat z 1 = (z : Rat)) := fun z => Rat.mkRat_one z
 by_cases hb0 : b = 0
 ·subst hb0
  refine (make_zero2 _ _ a 8 8 _ Ix Iy).mono ?_
  rintro e w3 ⟨p9, a9, n9, c9, b9, m9, d9, rfl, N9, b3⟩
  replace ht := ht.below b3
  replace Ix := Ix.below b3
  replace Iy := Iy.below b3
  replace VA := VA.below b3
  replace VB := VB.below b3
  replace BB := BB.trans (b3.mono BB.size)
  clear b3
  have hZ3 : w.heap.size ≤ w3.heap.size := BB.size
  have hN3VA : w.heap.size ≠ w3.heap.size := Nat.ne_of_lt VA.lt
  have hN3VB : w.heap.size + 1 ≠ w3.heap.size := Nat.ne_of_lt VB.lt
  obtain ⟨W3, hW3, hS3, hL3, V9⟩ := V3.lay w3 27 (.bool p9) (.slice a9 n9 c9) (.slice b9 m9 d9)
  replace ht := ht.below hL3
  replace Ix := Ix.below hL3
  replace Iy := Iy.below hL3
  replace VA := VA.below hL3
  replace VB := VB.below hL3
  replace BB := BB.trans (hL3.mono BB.size)
  clear hL3
  obtain ⟨VB_0, VB_1, VB_2, VB_3⟩ := id VB
  rw [hW3] at VB_0 VB_1 VB_2 VB_3
  go_wp2_with fail
  clear VB_0 VB_1 VB_2 VB_3
  rw [← hW3]
  generalize w3.heap.size = R3 at *
  clear hW3 hS3
  refine (rfrom_any _ 0 8 _ Iy (by omega)).mono ?_
  rintro e w4 ⟨vy, rfl, Jy, b4⟩
  replace ht := ht.below b4
  replace Ix := Ix.below b4
  replace Iy := Iy.below b4
  replace VA := VA.below b4
  replace VB := VB.below b4
  replace V9 := V9.below b4
  replace BB := BB.trans (b4.mono BB.size)
  clear b4
  obtain ⟨py, ay, cy, rfl⟩ : ∃ py ay cy, vy = .agg #[.bool py, .slice ay 0 cy] := by
   obtain ⟨ao, c, h1, _⟩ := id Jy; rw [Int.natAbs_zero, nl_zero] at h1; exact ⟨_, _, _, h1⟩
  have hZ4 : w.heap.size ≤ w4.heap.size := BB.size
  have hN4VA : w.heap.size ≠ w4.heap.size := Nat.ne_of_lt VA.lt
  have hN4VB : w.heap.size + 1 ≠ w4.heap.size := Nat.ne_of_lt VB.lt
  have hN4V9 : R3 ≠ w4.heap.size := Nat.ne_of_lt V9.lt
  obtain ⟨W4, hW4, hS4, hL4, VY⟩ := V2.lay w4 32 (.bool py) (.slice ay 0 cy)
  replace ht := ht.below hL4
  replace Ix := Ix.below hL4
  replace Iy := Iy.below hL4
  replace Jy := Jy.below hL4
  replace VA := VA.below hL4
  replace VB := VB.below hL4
  replace V9 := V9.below hL4
  replace BB := BB.trans (hL4.mono BB.size)
  clear hL4
  go_wp2
  rw [← hW4]
  generalize w4.heap.size = R4 at *
  clear hW4 hS4
  have hDr : Below W4.heap.size W4 W4.drew := (Below.refl _ _).drew
  replace ht := ht.below hDr
  replace Ix := Ix.below hDr
  replace Iy := Iy.below hDr
  replace Jy := Jy.below hDr
  replace VA := VA.below hDr
  replace VB := VB.below hDr
  replace V9 := V9.below hDr
  replace VY := VY.below hDr
  replace BB := BB.trans (hDr.mono BB.size)
  clear hDr
  refine wp_region_held_drew (S := (fun w' => w'.cell? ⟨w.heap.size, 0, none⟩ = some (.bool p) ∧ w'.cell? ⟨w.heap.size, 1, none⟩ = some (.slice ao n c))) (by kernel_rfl) ?_ (fun hHeld => ?_)
  ·exact ⟨VA.1, VA.2.1⟩
  generalize W4.drew = W5 at *
  refine wpAnyH_ready (rs := [0]) (by kernel_rfl) (by simp) ?_
  refine AllReadyH.cons (by simp only [xL1, xL2, xL3]; rfl) (fun K hK => ?_) AllReadyH.nil
  go_simp
  refine (qzero_at _).mono ?_
  rintro e w5 ⟨t0, rfl, h0, b5⟩
  go_wp2_with fail
  replace ht := ht.below b5
  replace Ix := Ix.below b5
  replace Iy := Iy.below b5
  replace Jy := Jy.below b5
  replace VA := VA.below b5
  replace VB := VB.below b5
  replace V9 := V9.below b5
  replace VY := VY.below b5
  replace BB := BB.trans (b5.mono BB.size)
  clear b5
  refine hK.out _ _ ?_ (fun hH1 => ?_)
  ·exact ⟨VA.1, VA.2.1⟩
  clear hK K hHeld
  (try simp only [Act.put, xL4, xL5, xL6])
  refine wpAnyH_ready (rs := [1]) (by kernel_rfl) (by simp) ?_
  refine AllReadyH.cons (by simp only [xL1, xL2, xL3]; rfl) (fun K hK => ?_) AllReadyH.nil
  go_simp
  refine (jsmall_at 0 1 _ (by omega) (by omega) (by omega) (by omega)).mono ?_
  rintro e w6 ⟨t1, rfl, h1, b6⟩
  rw [HM1.out] at h1
  go_wp2_with fail
  replace ht := ht.below b6
  replace Ix := Ix.below b6
  replace Iy := Iy.below b6
  replace Jy := Jy.below b6
  replace h0 := h0.below b6
  replace VA := VA.below b6
  replace VB := VB.below b6
  replace V9 := V9.below b6
  replace VY := VY.below b6
  replace BB := BB.trans (b6.mono BB.size)
  clear b6
  refine hK.out _ _ ?_ (fun hH2 => ?_)
  ·exact ⟨VA.1, VA.2.1⟩
  clear hK K hH1
  (try simp only [Act.put, xL4, xL5, xL6])
  refine wpAnyH_ready (rs := [2]) (by kernel_rfl) (by simp) ?_
  refine AllReadyH.cons (by simp only [xL1, xL2, xL3]; rfl) (fun K hK => ?_) AllReadyH.nil
  go_simp
  refine (jis_at _ _ (0 : Rat) 1 2 _ h0 (qsz_int 0 (by decide) (by omega)) h1 (by omega)).mono ?_
  rintro e w7 ⟨rfl, b7⟩
  go_wp2_with fail
  replace ht := ht.below b7
  replace Ix := Ix.below b7
  replace Iy := Iy.below b7
  replace Jy := Jy.below b7
  replace h0 := h0.below b7
  replace h1 := h1.below b7
  replace VA := VA.below b7
  replace VB := VB.below b7
  replace V9 := V9.below b7
  replace VY := VY.below b7
  replace BB := BB.trans (b7.mono BB.size)
  clear b7
  refine hK.out _ _ ?_ (fun hH3 => ?_)
  ·exact ⟨VA.1, VA.2.1⟩
  clear hK K hH2
  (try simp only [Act.put, xL4, xL5, xL6])
  refine wpAnyH_take (i := 3) (v := ?_) (by simp only [xL1, xL2, xL3]; rfl) (by kernel_rfl) (by kernel_rfl) (by kernel_rfl) (by exact fun _ _ _ h => h) (Or.inl ⟨by rfl, ?_⟩) (by assumption) ?_
  rotate_left
  ·(intro w hSw; (try dsimp only at hSw); go_simp; (try with_reducible rfl))
  (try simp only [Act.put, xL4, xL5, xL6])
  refine wpAnyH_take (i := 4) (v := ?_) (by simp only [xL1, xL2, xL3]; rfl) (by kernel_rfl) (by kernel_rfl) (by kernel_rfl) (by exact fun _ _ _ h => h) (Or.inl ⟨by rfl, ?_⟩) (by assumption) ?_
  rotate_left
  ·(intro w hSw; (try dsimp only at hSw); go_simp; (try with_reducible rfl))
  (try simp only [Act.put, xL4, xL5, xL6])
  refine wpAnyH_ready (rs := [5]) (by kernel_rfl) (by simp) ?_
  refine AllReadyH.cons (by simp only [xL1, xL2, xL3]; rfl) (fun K hK => ?_) AllReadyH.nil
  go_simp
  refine (qone_at _).mono ?_
  rintro e w8 ⟨t2, rfl, h2, b8⟩
  go_wp2_with fail
  replace ht := ht.below b8
  replace Ix := Ix.below b8
  replace Iy := Iy.below b8
  replace Jy := Jy.below b8
  replace h0 := h0.below b8
  replace h1 := h1.below b8
  replace VA := VA.below b8
  replace VB := VB.below b8
  replace V9 := V9.below b8
  replace VY := VY.below b8
  replace BB := BB.trans (b8.mono BB.size)
  clear b8
  refine hK.out _ _ ?_ (fun hH4 => ?_)
  ·exact ⟨VA.1, VA.2.1⟩
  clear hK K hH3
  (try simp only [Act.put, xL4, xL5, xL6])
  refine wpAnyH_ready (rs := [6]) (by kernel_rfl) (by simp) ?_
  refine AllReadyH.cons (by simp only [xL1, xL2, xL3]; rfl) (fun K hK => ?_) AllReadyH.nil
  go_simp
  refine (jsmall_at 1 1 _ (by omega) (by omega) (by omega) (by omega)).mono ?_
  rintro e w9 ⟨t3, rfl, h3, b9⟩
  rw [HM1.out] at h3
  go_wp2_with fail
  replace ht := ht.below b9
  replace Ix := Ix.below b9
  replace Iy := Iy.below b9
  replace Jy := Jy.below b9
  replace h0 := h0.below b9
  replace h1 := h1.below b9
  replace h2 := h2.below b9
  replace VA := VA.below b9
  replace VB := VB.below b9
  replace V9 := V9.below b9
  replace VY := VY.below b9
  replace BB := BB.trans (b9.mono BB.size)
  clear b9
  refine hK.out _ _ ?_ (fun hH5 => ?_)
  ·exact ⟨VA.1, VA.2.1⟩
  clear hK K hH4
  (try simp only [Act.put, xL4, xL5, xL6])
  refine wpAnyH_ready (rs := [7]) (by kernel_rfl) (by simp) ?_
  refine AllReadyH.cons (by simp only [xL1, xL2, xL3]; rfl) (fun K hK => ?_) AllReadyH.nil
  go_simp
  refine (jis_at _ _ (1 : Rat) 1 2 _ h2 (qsz_int 1 nlw_one (by omega)) h3 (by omega)).mono ?_
  rintro e w10 ⟨rfl, b10⟩
  go_wp2_with fail
  replace ht := ht.below b10
  replace Ix := Ix.below b10
  replace Iy := Iy.below b10
  replace Jy := Jy.below b10
  replace h0 := h0.below b10
  replace h1 := h1.below b10
  replace h2 := h2.below b10
  replace h3 := h3.below b10
  replace VA := VA.below b10
  replace VB := VB.below b10
  replace V9 := V9.below b10
  replace VY := VY.below b10
  replace BB := BB.trans (b10.mono BB.size)
  clear b10
  refine hK.out _ _ ?_ (fun hH6 => ?_)
  ·exact ⟨VA.1, VA.2.1⟩
  clear hK K hH5
  (try simp only [Act.put, xL4, xL5, xL6])
  refine wpAnyH_take (i := 8) (v := ?_) (by simp only [xL1, xL2, xL3]; rfl) (by kernel_rfl) (by kernel_rfl) (by kernel_rfl) (by exact fun _ _ _ h => h) (Or.inl ⟨by rfl, ?_⟩) (by assumption) ?_
  rotate_left
  ·(intro w hSw; (try dsimp only at hSw); go_simp; (try with_reducible rfl))
  (try simp only [Act.put, xL4, xL5, xL6])
  refine wpAnyH_take (i := 9) (v := ?_) (by simp only [xL1, xL2, xL3]; rfl) (by kernel_rfl) (by kernel_rfl) (by kernel_rfl) (by exact fun _ _ _ h => h) (Or.inl ⟨by rfl, ?_⟩) (by assumption) ?_
  rotate_left
  ·(intro w hSw; (try dsimp only at hSw); go_simp; (try with_reducible rfl))
  (try simp only [Act.put, xL4, xL5, xL6])
  refine wpAnyH_take (i := 10) (v := ?_) (by simp only [xL1, xL2, xL3]; rfl) (by kernel_rfl) (by kernel_rfl) (by kernel_rfl) (by exact fun _ _ _ h => h) (Or.inl ⟨by rfl, ?_⟩) (by assumption) ?_
  rotate_left
  ·(intro w hSw; (try dsimp only at hSw); go_simp; (try with_reducible rfl))
  (try simp only [Act.put, xL4, xL5, xL6])
  refine wpAnyH_take (i := 11) (v := ?_) (by simp only [xL1, xL2, xL3]; rfl) (by kernel_rfl) (by kernel_rfl) (by kernel_rfl) (by exact fun _ _ _ h => h) (Or.inl ⟨by rfl, ?_⟩) (by assumption) ?_
  rotate_left
  ·(intro w hSw; (try dsimp only at hSw); go_simp; (try with_reducible rfl))
  (try simp only [Act.put, xL4, xL5, xL6])
  refine wpAnyH_take (i := 13) (v := ?_) (by simp only [xL1, xL2, xL3]; rfl) (by kernel_rfl) (by kernel_rfl) (by kernel_rfl) (by exact fun _ _ _ h => h) (Or.inl ⟨by rfl, ?_⟩) (by assumption) ?_
  rotate_left
  ·(intro w hSw; (try dsimp only at hSw); go_simp; (try with_reducible rfl))
  (try simp only [Act.put, xL4, xL5, xL6])
  refine wpAnyH_ready (rs := [12]) (by kernel_rfl) (by simp) ?_
  refine AllReadyH.cons (by simp only [xL1, xL2, xL3]; rfl) (fun K hK => ?_) AllReadyH.nil
  go_simp
  refine (qof_at k _ (by omega) (by omega)).mono ?_
  rintro e w11 ⟨t4, rfl, h4, b11⟩
  go_wp2_with fail
  replace ht := ht.below b11
  replace Ix := Ix.below b11
  replace Iy := Iy.below b11
  replace Jy := Jy.below b11
  replace h0 := h0.below b11
  replace h1 := h1.below b11
  replace h2 := h2.below b11
  replace h3 := h3.below b11
  replace VA := VA.below b11
  replace VB := VB.below b11
  replace V9 := V9.below b11
  replace VY := VY.below b11
  replace BB := BB.trans (b11.mono BB.size)
  clear b11
  refine hK.out _ _ ?_ (fun hH7 => ?_)
  ·exact ⟨VA.1, VA.2.1⟩
  clear hK K hH6
  (try simp only [Act.put, xL4, xL5, xL6])
  refine wpAnyH_ready (rs := [14]) (by kernel_rfl) (by simp) ?_
  refine AllReadyH.cons (by simp only [xL1, xL2, xL3]; rfl) (fun K hK => ?_) AllReadyH.nil
  go_simp
  refine (jsmall_at k 1 _ (by omega) (by omega) (by omega) (by omega)).mono ?_
  rintro e w12 ⟨t5, rfl, h5, b12⟩
  rw [HM1.out] at h5
  go_wp2_with fail
  replace ht := ht.below b12
  replace Ix := Ix.below b12
  replace Iy := Iy.below b12
  replace Jy := Jy.below b12
  replace h0 := h0.below b12
  replace h1 := h1.below b12
  replace h2 := h2.below b12
  replace h3 := h3.below b12
  replace h4 := h4.below b12
  replace VA := VA.below b12
  replace VB := VB.below b12
  replace V9 := V9.below b12
  replace VY := VY.below b12
  replace BB := BB.trans (b12.mono BB.size)
  clear b12
  refine hK.out _ _ ?_ (fun hH8 => ?_)
  ·exact ⟨VA.1, VA.2.1⟩
  clear hK K hH7
  (try simp only [Act.put, xL4, xL5, xL6])
  refine wpAnyH_ready (rs := [15]) (by kernel_rfl) (by simp) ?_
  refine AllReadyH.cons (by simp only [xL1, xL2, xL3]; rfl) (fun K hK => ?_) AllReadyH.nil
  go_simp
  refine (jis_at _ _ (k : Rat) 2 2 _ h4 (qsz_int k lk (by omega)) h5 (by omega)).mono ?_
  rintro e w13 ⟨rfl, b13⟩
  go_wp2_with fail
  replace ht := ht.below b13
  replace Ix := Ix.below b13
  replace Iy := Iy.below b13
  replace Jy := Jy.below b13
  replace h0 := h0.below b13
  replace h1 := h1.below b13
  replace h2 := h2.below b13
  replace h3 := h3.below b13
  replace h4 := h4.below b13
  replace h5 := h5.below b13
  replace VA := VA.below b13
  replace VB := VB.below b13
  replace V9 := V9.below b13
  replace VY := VY.below b13
  replace BB := BB.trans (b13.mono BB.size)
  clear b13
  refine hK.out _ _ ?_ (fun hH9 => ?_)
  ·exact ⟨VA.1, VA.2.1⟩
  clear hK K hH8
  (try simp only [Act.put, xL4, xL5, xL6])
  refine wpAnyH_take (i := 16) (v := ?_) (by simp only [xL1, xL2, xL3]; rfl) (by kernel_rfl) (by kernel_rfl) (by kernel_rfl) (by exact fun _ _ _ h => h) (Or.inl ⟨by rfl, ?_⟩) (by assumption) ?_
  rotate_left
  ·(intro w hSw; (try dsimp only at hSw); go_simp; (try with_reducible rfl))
  (try simp only [Act.put, xL4, xL5, xL6])
  refine wpAnyH_take (i := 17) (v := ?_) (by simp only [xL1, xL2, xL3]; rfl) (by kernel_rfl) (by kernel_rfl) (by kernel_rfl) (by exact fun _ _ _ h => h) (Or.inl ⟨by rfl, ?_⟩) (by assumption) ?_
  rotate_left
  ·(intro w hSw; (try dsimp only at hSw); go_simp; (try with_reducible rfl))
  (try simp only [Act.put, xL4, xL5, xL6])
  refine wpAnyH_take (i := 18) (v := ?_) (by simp only [xL1, xL2, xL3]; rfl) (by kernel_rfl) (by kernel_rfl) (by kernel_rfl) (by exact fun _ _ _ h => h) (Or.inl ⟨by rfl, ?_⟩) (by assumption) ?_
  rotate_left
  ·(intro w hSw; (try dsimp only at hSw); go_simp; (try with_reducible rfl))
  (try simp only [Act.put, xL4, xL5, xL6])
  refine wpAnyH_take (i := 19) (v := ?_) (by simp only [xL1, xL2, xL3]; rfl) (by kernel_rfl) (by kernel_rfl) (by kernel_rfl) (by exact fun _ _ _ h => h) (Or.inl ⟨by rfl, ?_⟩) (by assumption) ?_
  rotate_left
  ·(intro w hSw; (try dsimp only at hSw); go_simp; (try with_reducible rfl))
  (try simp only [Act.put, xL4, xL5, xL6])
  refine wpAnyH_take (i := 21) (v := ?_) (by simp only [xL1, xL2, xL3]; rfl) (by kernel_rfl) (by kernel_rfl) (by kernel_rfl) (by exact fun _ _ _ h => h) (Or.inl ⟨by rfl, ?_⟩) (by assumption) ?_
  rotate_left
  ·(intro w hSw; (try dsimp only at hSw); go_simp; (try with_reducible rfl))
  (try simp only [Act.put, xL4, xL5, xL6])
  refine wpAnyH_ready (rs := [20]) (by kernel_rfl) (by simp) ?_
  refine AllReadyH.cons (by simp only [xL1, xL2, xL3]; rfl) (fun K hK => ?_) AllReadyH.nil
  go_simp
  refine (qint_at _ a 8 _ Ix).mono ?_
  rintro e w14 ⟨t6, rfl, h6, b14⟩
  go_wp2_with fail
  replace ht := ht.below b14
  replace Ix := Ix.below b14
  replace Iy := Iy.below b14
  replace Jy := Jy.below b14
  replace h0 := h0.below b14
  replace h1 := h1.below b14
  replace h2 := h2.below b14
  replace h3 := h3.below b14
  replace h4 := h4.below b14
  replace h5 := h5.below b14
  replace VA := VA.below b14
  replace VB := VB.below b14
  replace V9 := V9.below b14
  replace VY := VY.below b14
  replace BB := BB.trans (b14.mono BB.size)
  clear b14
  refine hK.out _ _ ?_ (fun hH10 => ?_)
  ·exact ⟨VA.1, VA.2.1⟩
  clear hK K hH9
  (try simp only [Act.put, xL4, xL5, xL6])
  refine wpAnyH_ready (rs := [22]) (by kernel_rfl) (by simp) ?_
  refine AllReadyH.cons (by simp only [xL1, xL2, xL3]; rfl) (fun K hK => ?_) AllReadyH.nil
  go_simp
  refine (rfrom_any _ a 8 _ Ix (by omega)).mono ?_
  rintro e w15 ⟨t7, rfl, h7, b15⟩
  go_wp2_with fail
  replace ht := ht.below b15
  replace Ix := Ix.below b15
  replace Iy := Iy.below b15
  replace Jy := Jy.below b15
  replace h0 := h0.below b15
  replace h1 := h1.below b15
  replace h2 := h2.below b15
  replace h3 := h3.below b15
  replace h4 := h4.below b15
  replace h5 := h5.below b15
  replace h6 := h6.below b15
  replace VA := VA.below b15
  replace VB := VB.below b15
  replace V9 := V9.below b15
  replace VY := VY.below b15
  replace BB := BB.trans (b15.mono BB.size)
  clear b15
  refine hK.out _ _ ?_ (fun hH11 => ?_)
  ·exact ⟨VA.1, VA.2.1⟩
  clear hK K hH10
  (try simp only [Act.put, xL4, xL5, xL6])
  refine wpAnyH_ready (rs := [23]) (by kernel_rfl) (by simp) ?_
  refine AllReadyH.cons (by simp only [xL1, xL2, xL3]; rfl) (fun K hK => ?_) AllReadyH.nil
  go_simp
  refine (jwhole_at _ a 8 _ h7 la (by omega)).mono ?_
  rintro e w16 ⟨t8, rfl, h8, b16⟩
  go_wp2_with fail
  replace ht := ht.below b16
  replace Ix := Ix.below b16
  replace Iy := Iy.below b16
  replace Jy := Jy.below b16
  replace h0 := h0.below b16
  replace h1 := h1.below b16
  replace h2 := h2.below b16
  replace h3 := h3.below b16
  replace h4 := h4.below b16
  replace h5 := h5.below b16
  replace h6 := h6.below b16
  replace h7 := h7.below b16
  replace VA := VA.below b16
  replace VB := VB.below b16
  replace V9 := V9.below b16
  replace VY := VY.below b16
  replace BB := BB.trans (b16.mono BB.size)
  clear b16
  refine hK.out _ _ ?_ (fun hH12 => ?_)
  ·exact ⟨VA.1, VA.2.1⟩
  clear hK K hH11
  (try simp only [Act.put, xL4, xL5, xL6])
  refine wpAnyH_ready (rs := [24]) (by kernel_rfl) (by simp) ?_
  refine AllReadyH.cons (by simp only [xL1, xL2, xL3]; rfl) (fun K hK => ?_) AllReadyH.nil
  go_simp
  refine (jis_at _ _ (a : Rat) 8 8 _ h6 (qsz_int a la (by omega)) h8 (by omega)).mono ?_
  rintro e w17 ⟨rfl, b17⟩
  go_wp2_with fail
  replace ht := ht.below b17
  replace Ix := Ix.below b17
  replace Iy := Iy.below b17
  replace Jy := Jy.below b17
  replace h0 := h0.below b17
  replace h1 := h1.below b17
  replace h2 := h2.below b17
  replace h3 := h3.below b17
  replace h4 := h4.below b17
  replace h5 := h5.below b17
  replace h6 := h6.below b17
  replace h7 := h7.below b17
  replace h8 := h8.below b17
  replace VA := VA.below b17
  replace VB := VB.below b17
  replace V9 := V9.below b17
  replace VY := VY.below b17
  replace BB := BB.trans (b17.mono BB.size)
  clear b17
  refine hK.out _ _ ?_ (fun hH13 => ?_)
  ·exact ⟨VA.1, VA.2.1⟩
  clear hK K hH12
  (try simp only [Act.put, xL4, xL5, xL6])
  refine wpAnyH_take (i := 25) (v := ?_) (by simp only [xL1, xL2, xL3]; rfl) (by kernel_rfl) (by kernel_rfl) (by kernel_rfl) (by exact fun _ _ _ h => h) (Or.inl ⟨by rfl, ?_⟩) (by assumption) ?_
  rotate_left
  ·(intro w hSw; (try dsimp only at hSw); go_simp; (try with_reducible rfl))
  (try simp only [Act.put, xL4, xL5, xL6])
  refine wpAnyH_take (i := 26) (v := ?_) (by simp only [xL1, xL2, xL3]; rfl) (by kernel_rfl) (by kernel_rfl) (by kernel_rfl) (by exact fun _ _ _ h => h) (Or.inl ⟨by rfl, ?_⟩) (by assumption) ?_
  rotate_left
  ·(intro w hSw; (try dsimp only at hSw); go_simp; (try with_reducible rfl))
  (try simp only [Act.put, xL4, xL5, xL6])
  refine wpAnyH_done (by kernel_rfl) ?_ _
  clear hH13
  clear h0 h1 h2 h3 h4 h5 h6 h7 h8
  go_wp2_with fail
  refine (qfrac_at k l _ (by omega) (by omega) (by omega) (by omega) ht).mono ?_
  rintro e w18 ⟨vf, rfl, hf, b18⟩
  replace ht := ht.below b18
  replace Ix := Ix.below b18
  replace Iy := Iy.below b18
  replace Jy := Jy.below b18
  replace VA := VA.below b18
  replace VB := VB.below b18
  replace V9 := V9.below b18
  replace VY := VY.below b18
  replace BB := BB.trans (b18.mono BB.size)
  clear b18
  obtain ⟨pf, af, nf, cf, bf, mf, df, rfl⟩ := hf.open
  have hZ6 : w.heap.size ≤ w18.heap.size := BB.size
  have hN6VA : w.heap.size ≠ w18.heap.size := Nat.ne_of_lt VA.lt
  have hN6VB : w.heap.size + 1 ≠ w18.heap.size := Nat.ne_of_lt VB.lt
  have hN6V9 : R3 ≠ w18.heap.size := Nat.ne_of_lt V9.lt
  have hN6VY : R4 ≠ w18.heap.size := Nat.ne_of_lt VY.lt
  obtain ⟨W6, hW6, hS6, hL6, VF⟩ := V3.lay w18 27 (.bool pf) (.slice af nf cf) (.slice bf mf df)
  replace ht := ht.below hL6
  replace Ix := Ix.below hL6
  replace Iy := Iy.below hL6
  replace Jy := Jy.below hL6
  replace hf := hf.below hL6
  replace VA := VA.below hL6
  replace VB := VB.below hL6
  replace V9 := V9.below hL6
  replace VY := VY.below hL6
  replace BB := BB.trans (hL6.mono BB.size)
  clear hL6
  go_wp2_with fail
  rw [← hW6]
  generalize w18.heap.size = R6 at *
  clear hW6 hS6
  refine (jsmall_at 0 1 _ (by omega) (by omega) (by omega) (by omega)).mono ?_
  rintro e w19 ⟨vw, rfl, hw, b19⟩
  replace ht := ht.below b19
  replace Ix := Ix.below b19
  replace Iy := Iy.below b19
  replace Jy := Jy.below b19
  replace hf := hf.below b19
  replace VA := VA.below b19
  replace VB := VB.below b19
  replace V9 := V9.below b19
  replace VY := VY.below b19
  replace VF := VF.below b19
  replace BB := BB.trans (b19.mono BB.size)
  clear b19
  rw [HM1.out] at hw
  obtain ⟨pw, aw, nw, cw, bw, mw, dw, rfl⟩ := hw.open
  have sf : qsz ((k : Rat) / (l : Rat)) ≤ 4 := qsz_div _ _ (qsz_int k lk (by omega)) (qsz_int l ll (by omega))
  by_cases hl0 : l = 0
  ·have hkl : (k : Rat) / (l : Rat) = 0 := by rw [hl0, Rat.intCast_zero, Rat.div_def, Rat.inv_zero, Rat.mul_zero]
   rw [hkl] at hf sf
   have hlz : (l != 0) = false := by simp [hl0]
   clear hl0 hkl
   have hZ7 : w.heap.size ≤ w19.heap.size := BB.size
   have hN7VA : w.heap.size ≠ w19.heap.size := Nat.ne_of_lt VA.lt
   have hN7VB : w.heap.size + 1 ≠ w19.heap.size := Nat.ne_of_lt VB.lt
   have hN7V9 : R3 ≠ w19.heap.size := Nat.ne_of_lt V9.lt
   have hN7VY : R4 ≠ w19.heap.size := Nat.ne_of_lt VY.lt
   have hN7VF : R6 ≠ w19.heap.size := Nat.ne_of_lt VF.lt
   obtain ⟨W7, hW7, hS7, hL7, VW⟩ := V3.lay w19 34 (.bool pw) (.slice aw nw cw) (.slice bw mw dw)
   replace ht := ht.below hL7
   replace Ix := Ix.below hL7
   replace Iy := Iy.below hL7
   replace Jy := Jy.below hL7
   replace hf := hf.below hL7
   replace hw := hw.below hL7
   replace VA := VA.below hL7
   replace VB := VB.below hL7
   replace V9 := V9.below hL7
   replace VY := VY.below hL7
   replace VF := VF.below hL7
   replace BB := BB.trans (hL7.mono BB.size)
   clear hL7
   obtain ⟨VF_0, VF_1, VF_2, VF_3, VF_4, VF_5⟩ := id VF
   rw [hW7] at VF_0 VF_1 VF_2 VF_3 VF_4 VF_5
   go_wp2_with fail
   clear VF_0 VF_1 VF_2 VF_3 VF_4 VF_5
   rw [← hW7]
   generalize w19.heap.size = R7 at *
   clear hW7 hS7
   refine (jis_at _ _ (0 : Rat) 4 2 _ hf sf hw (by omega)).mono ?_
   rintro e w20 ⟨rfl, b20⟩
   replace ht := ht.below b20
   replace Ix := Ix.below b20
   replace Iy := Iy.below b20
   replace Jy := Jy.below b20
   replace hf := hf.below b20
   replace hw := hw.below b20
   replace VA := VA.below b20
   replace VB := VB.below b20
   replace V9 := V9.below b20
   replace VY := VY.below b20
   replace VF := VF.below b20
   replace VW := VW.below b20
   replace BB := BB.trans (b20.mono BB.size)
   clear b20
   clear hf
   clear VF VW
   obtain ⟨VY_0, VY_1, VY_2, VY_3⟩ := id VY
   obtain ⟨V9_0, V9_1, V9_2, V9_3, V9_4, V9_5⟩ := id V9
   go_wp2_with fail
   clear VY_0 VY_1 VY_2 VY_3 V9_0 V9_1 V9_2 V9_3 V9_4 V9_5
   refine (none_hid _ _ _ _ _ _ _ _ N9).mono ?_
   rintro e w21 ⟨rfl, b21⟩
   replace ht := ht.below b21
   replace Ix := Ix.below b21
   replace Iy := Iy.below b21
   replace Jy := Jy.below b21
   replace hw := hw.below b21
   replace VA := VA.below b21
   replace VB := VB.below b21
   replace V9 := V9.below b21
   replace VY := VY.below b21
   replace BB := BB.trans (b21.mono BB.size)
   clear b21
   go_wp2_with fail
   refine (qawake_at _ ht).mono ?_
   rintro e w22 ⟨rfl, b22⟩
   replace ht := ht.below b22
   replace Ix := Ix.below b22
   replace Iy := Iy.below b22
   replace Jy := Jy.below b22
   replace hw := hw.below b22
   replace VA := VA.below b22
   replace VB := VB.below b22
   replace V9 := V9.below b22
   replace VY := VY.below b22
   replace BB := BB.trans (b22.mono BB.size)
   clear b22
   go_wp2
   go_ret
   exact ⟨rfl, BB⟩
  ·have hlz : (l != 0) = true := by simp [hl0]
   have hl1 : (l : Rat) ≠ 0 := fun e => hl0 (Rat.intCast_eq_zero_iff.1 e)
   clear hl0
   have hZ7 : w.heap.size ≤ w19.heap.size := BB.size
   have hN7VA : w.heap.size ≠ w19.heap.size := Nat.ne_of_lt VA.lt
   have hN7VB : w.heap.size + 1 ≠ w19.heap.size := Nat.ne_of_lt VB.lt
   have hN7V9 : R3 ≠ w19.heap.size := Nat.ne_of_lt V9.lt
   have hN7VY : R4 ≠ w19.heap.size := Nat.ne_of_lt VY.lt
   have hN7VF : R6 ≠ w19.heap.size := Nat.ne_of_lt VF.lt
   obtain ⟨W7, hW7, hS7, hL7, VW⟩ := V3.lay w19 34 (.bool pw) (.slice aw nw cw) (.slice bw mw dw)
   replace ht := ht.below hL7
   replace Ix := Ix.below hL7
   replace Iy := Iy.below hL7
   replace Jy := Jy.below hL7
   replace hf := hf.below hL7
   replace hw := hw.below hL7
   replace VA := VA.below hL7
   replace VB := VB.below hL7
   replace V9 := V9.below hL7
   replace VY := VY.below hL7
   replace VF := VF.below hL7
   replace BB := BB.trans (hL7.mono BB.size)
   clear hL7
   go_wp2_with fail
   rw [← hW7]
   generalize w19.heap.size = R7 at *
   clear hW7 hS7
   refine (jsmall_at k 1 _ (by omega) (by omega) (by omega) (by omega)).mono ?_
   rintro e w20 ⟨s1, rfl, g1, b20⟩
   replace ht := ht.below b20
   replace Ix := Ix.below b20
   replace Iy := Iy.below b20
   replace Jy := Jy.below b20
   replace hf := hf.below b20
   replace hw := hw.below b20
   replace VA := VA.below b20
   replace VB := VB.below b20
   replace V9 := V9.below b20
   replace VY := VY.below b20
   replace VF := VF.below b20
   replace VW := VW.below b20
   replace BB := BB.trans (b20.mono BB.size)
   clear b20
   rw [HM1.out] at g1
   go_wp2_with fail
   refine (jsmall_at l 1 _ (by omega) (by omega) (by omega) (by omega)).mono ?_
   rintro e w21 ⟨s2, rfl, g2, b21⟩
   replace ht := ht.below b21
   replace Ix := Ix.below b21
   replace Iy := Iy.below b21
   replace Jy := Jy.below b21
   replace hf := hf.below b21
   replace hw := hw.below b21
   replace g1 := g1.below b21
   replace VA := VA.below b21
   replace VB := VB.below b21
   replace V9 := V9.below b21
   replace VY := VY.below b21
   replace VF := VF.below b21
   replace VW := VW.below b21
   replace BB := BB.trans (b21.mono BB.size)
   clear b21
   rw [HM1.out] at g2
   go_wp2_with fail
   refine (jinverse_at _ (l : Rat) 2 _ g2 (by omega) hl1).mono ?_
   rintro e w22 ⟨s3, rfl, g3, b22⟩
   replace ht := ht.below b22
   replace Ix := Ix.below b22
   replace Iy := Iy.below b22
   replace Jy := Jy.below b22
   replace hf := hf.below b22
   replace hw := hw.below b22
   replace g1 := g1.below b22
   replace g2 := g2.below b22
   replace VA := VA.below b22
   replace VB := VB.below b22
   replace V9 := V9.below b22
   replace VY := VY.below b22
   replace VF := VF.below b22
   replace VW := VW.below b22
   replace BB := BB.trans (b22.mono BB.size)
   clear b22
   go_wp2_with fail
   refine (jtimes_at _ _ (k : Rat) (l : Rat)⁻¹ 2 2 _ g1 g3 (by omega)).mono ?_
   rintro e w23 ⟨s4, rfl, g4, b23⟩
   replace ht := ht.below b23
   replace Ix := Ix.below b23
   replace Iy := Iy.below b23
   replace Jy := Jy.below b23
   replace hf := hf.below b23
   replace hw := hw.below b23
   replace g1 := g1.below b23
   replace g2 := g2.below b23
   replace g3 := g3.below b23
   replace VA := VA.below b23
   replace VB := VB.below b23
   replace V9 := V9.below b23
   replace VY := VY.below b23
   replace VF := VF.below b23
   replace VW := VW.below b23
   replace BB := BB.trans (b23.mono BB.size)
   clear b23
   obtain ⟨pw2, aw2, nw2, cw2, bw2, mw2, dw2, rfl⟩ := g4.open
   clear g1 g2 g3 hw
   have hKp := VW.keepJ (.bool pw2) (.slice aw2 nw2 cw2) (.slice bw2 mw2 dw2)
   have VA_n := VA.other3 (R := R7) (by omega) (.bool pw2) (.slice aw2 nw2 cw2) (.slice bw2 mw2 dw2)
   have VB_n := VB.other3 (R := R7) (by omega) (.bool pw2) (.slice aw2 nw2 cw2) (.slice bw2 mw2 dw2)
   have V9_n := V9.other3 (R := R7) (by omega) (.bool pw2) (.slice aw2 nw2 cw2) (.slice bw2 mw2 dw2)
   have VY_n := VY.other3 (R := R7) (by omega) (.bool pw2) (.slice aw2 nw2 cw2) (.slice bw2 mw2 dw2)
   have VF_n := VF.other3 (R := R7) (by omega) (.bool pw2) (.slice aw2 nw2 cw2) (.slice bw2 mw2 dw2)
   have VW_n := VW.same (.bool pw2) (.slice aw2 nw2 cw2) (.slice bw2 mw2 dw2)
   have ht_n := ht.keep hKp
   have Ix_n := Ix.keep hKp
   have Iy_n := Iy.keep hKp
   have Jy_n := Jy.keep hKp
   have hf_n := hf.keep hKp
   have g4_n := g4.keep hKp
   have BB_n := below_store3 (R := R7) BB (by omega) (.bool pw2) (.slice aw2 nw2 cw2) (.slice bw2 mw2 dw2)
   clear hKp
   obtain ⟨VW_0, VW_1, VW_2, VW_3, VW_4, VW_5⟩ := id VW
   obtain ⟨VF_n0, VF_n1, VF_n2, VF_n3, VF_n4, VF_n5⟩ := id VF_n
   go_wp2_with fail
   clear VW_0 VW_1 VW_2 VW_3 VW_4 VW_5 VF_n0 VF_n1 VF_n2 VF_n3 VF_n4 VF_n5
   clear BB ht Ix Iy Jy hf g4 VA VB V9 VY VF VW
   generalize ((w23.setCell ⟨R7, 0, none⟩ (.bool pw2)).setCell ⟨R7, 1, none⟩ (.slice aw2 nw2 cw2)).setCell ⟨R7, 2, none⟩ (.slice bw2 mw2 dw2) = W8 at *
   have BB := BB_n
   have ht := ht_n
   have Ix := Ix_n
   have Iy := Iy_n
   have Jy := Jy_n
   have hf := hf_n
   have g4 := g4_n
   have VA := VA_n
   have VB := VB_n
   have V9 := V9_n
   have VY := VY_n
   have VF := VF_n
   have VW := VW_n
   clear BB_n ht_n Ix_n Iy_n Jy_n hf_n g4_n VA_n VB_n V9_n VY_n VF_n VW_n
   refine (jis_at _ _ ((k : Rat) * (l : Rat)⁻¹) 4 4 _ (by rw [← Rat.div_def]; exact hf) (by rw [← Rat.div_def]; exact sf) g4 (by omega)).mono ?_
   rintro e w24 ⟨rfl, b24⟩
   replace ht := ht.below b24
   replace Ix := Ix.below b24
   replace Iy := Iy.below b24
   replace Jy := Jy.below b24
   replace hf := hf.below b24
   replace g4 := g4.below b24
   replace VA := VA.below b24
   replace VB := VB.below b24
   replace V9 := V9.below b24
   replace VY := VY.below b24
   replace VF := VF.below b24
   replace VW := VW.below b24
   replace BB := BB.trans (b24.mono BB.size)
   clear b24
   clear hf
   clear VF VW
   obtain ⟨VY_0, VY_1, VY_2, VY_3⟩ := id VY
   obtain ⟨V9_0, V9_1, V9_2, V9_3, V9_4, V9_5⟩ := id V9
   go_wp2_with fail
   clear VY_0 VY_1 VY_2 VY_3 V9_0 V9_1 V9_2 V9_3 V9_4 V9_5
   refine (none_hid _ _ _ _ _ _ _ _ N9).mono ?_
   rintro e w25 ⟨rfl, b25⟩
   replace ht := ht.below b25
   replace Ix := Ix.below b25
   replace Iy := Iy.below b25
   replace Jy := Jy.below b25
   replace g4 := g4.below b25
   replace VA := VA.below b25
   replace VB := VB.below b25
   replace V9 := V9.below b25
   replace VY := VY.below b25
   replace BB := BB.trans (b25.mono BB.size)
   clear b25
   go_wp2_with fail
   refine (qawake_at _ ht).mono ?_
   rintro e w26 ⟨rfl, b26⟩
   replace ht := ht.below b26
   replace Ix := Ix.below b26
   replace Iy := Iy.below b26
   replace Jy := Jy.below b26
   replace g4 := g4.below b26
   replace VA := VA.below b26
   replace VB := VB.below b26
   replace V9 := V9.below b26
   replace VY := VY.below b26
   replace BB := BB.trans (b26.mono BB.size)
   clear b26
   go_wp2
   go_ret
   exact ⟨rfl, BB⟩
 ·have hbr : (b : Rat) ≠ 0 := fun e => hb0 (Rat.intCast_eq_zero_iff.1 e)
  have sr : qsz ((a : Rat) / (b : Rat)) ≤ 16 := qsz_div _ _ (qsz_int a la (by omega)) (qsz_int b lb (by omega))
  refine (make_at _ _ a b 8 8 _ Ix Iy (by omega) (by omega) hb0 ht).mono ?_
  rintro e w3 ⟨v9, rfl, hr, b3⟩
  replace ht := ht.below b3
  replace Ix := Ix.below b3
  replace Iy := Iy.below b3
  replace VA := VA.below b3
  replace VB := VB.below b3
  replace BB := BB.trans (b3.mono BB.size)
  clear b3
  obtain ⟨p9, a9, n9, c9, b9, m9, d9, rfl⟩ := hr.open
  have hZ3 : w.heap.size ≤ w3.heap.size := BB.size
  have hN3VA : w.heap.size ≠ w3.heap.size := Nat.ne_of_lt VA.lt
  have hN3VB : w.heap.size + 1 ≠ w3.heap.size := Nat.ne_of_lt VB.lt
  obtain ⟨W3, hW3, hS3, hL3, V9⟩ := V3.lay w3 27 (.bool p9) (.slice a9 n9 c9) (.slice b9 m9 d9)
  replace ht := ht.below hL3
  replace Ix := Ix.below hL3
  replace Iy := Iy.below hL3
  replace hr := hr.below hL3
  replace VA := VA.below hL3
  replace VB := VB.below hL3
  replace BB := BB.trans (hL3.mono BB.size)
  clear hL3
  obtain ⟨VB_0, VB_1, VB_2, VB_3⟩ := id VB
  rw [hW3] at VB_0 VB_1 VB_2 VB_3
  go_wp2_with fail
  clear VB_0 VB_1 VB_2 VB_3
  rw [← hW3]
  generalize w3.heap.size = R3 at *
  clear hW3 hS3
  refine (rfrom_any _ b 8 _ Iy (by omega)).mono ?_
  rintro e w4 ⟨vy, rfl, Jy, b4⟩
  replace ht := ht.below b4
  replace Ix := Ix.below b4
  replace Iy := Iy.below b4
  replace hr := hr.below b4
  replace VA := VA.below b4
  replace VB := VB.below b4
  replace V9 := V9.below b4
  replace BB := BB.trans (b4.mono BB.size)
  clear b4
  obtain ⟨py, ay, ny, cy, rfl, hny⟩ : ∃ py ay ny cy, vy = .agg #[.bool py, .slice ay ny cy] ∧ ((ny : Int) == 0) = false := by
   obtain ⟨ao, c, h1, _⟩ := id Jy
   refine ⟨_, _, _, _, h1, ?_⟩
   have : nl 10000 b.natAbs ≠ 0 := fun h => hb0 (by have := (nl_eq_zero 10000 _ (by decide)).1 h; omega)
   simp; omega
  have hZ4 : w.heap.size ≤ w4.heap.size := BB.size
  have hN4VA : w.heap.size ≠ w4.heap.size := Nat.ne_of_lt VA.lt
  have hN4VB : w.heap.size + 1 ≠ w4.heap.size := Nat.ne_of_lt VB.lt
  have hN4V9 : R3 ≠ w4.heap.size := Nat.ne_of_lt V9.lt
  obtain ⟨W4, hW4, hS4, hL4, VY⟩ := V2.lay w4 32 (.bool py) (.slice ay ny cy)
  replace ht := ht.below hL4
  replace Ix := Ix.below hL4
  replace Iy := Iy.below hL4
  replace hr := hr.below hL4
  replace Jy := Jy.below hL4
  replace VA := VA.below hL4
  replace VB := VB.below hL4
  replace V9 := V9.below hL4
  replace BB := BB.trans (hL4.mono BB.size)
  clear hL4
  go_wp2
  rw [← hW4]
  generalize w4.heap.size = R4 at *
  clear hW4 hS4
  have hDr : Below W4.heap.size W4 W4.drew := (Below.refl _ _).drew
  replace ht := ht.below hDr
  replace Ix := Ix.below hDr
  replace Iy := Iy.below hDr
  replace hr := hr.below hDr
  replace Jy := Jy.below hDr
  replace VA := VA.below hDr
  replace VB := VB.below hDr
  replace V9 := V9.below hDr
  replace VY := VY.below hDr
  replace BB := BB.trans (hDr.mono BB.size)
  clear hDr
  refine wp_region_held_drew (S := (fun w' => w'.cell? ⟨w.heap.size, 0, none⟩ = some (.bool p) ∧ w'.cell? ⟨w.heap.size, 1, none⟩ = some (.slice ao n c))) (by kernel_rfl) ?_ (fun hHeld => ?_)
  ·exact ⟨VA.1, VA.2.1⟩
  generalize W4.drew = W5 at *
  refine wpAnyH_ready (rs := [0]) (by kernel_rfl) (by simp) ?_
  refine AllReadyH.cons (by simp only [xL1, xL2, xL3]; rfl) (fun K hK => ?_) AllReadyH.nil
  go_simp
  refine (qzero_at _).mono ?_
  rintro e w5 ⟨t0, rfl, h0, b5⟩
  go_wp2_with fail
  replace ht := ht.below b5
  replace Ix := Ix.below b5
  replace Iy := Iy.below b5
  replace hr := hr.below b5
  replace Jy := Jy.below b5
  replace VA := VA.below b5
  replace VB := VB.below b5
  replace V9 := V9.below b5
  replace VY := VY.below b5
  replace BB := BB.trans (b5.mono BB.size)
  clear b5
  refine hK.out _ _ ?_ (fun hH1 => ?_)
  ·exact ⟨VA.1, VA.2.1⟩
  clear hK K hHeld
  (try simp only [Act.put, xL4, xL5, xL6])
  refine wpAnyH_ready (rs := [1]) (by kernel_rfl) (by simp) ?_
  refine AllReadyH.cons (by simp only [xL1, xL2, xL3]; rfl) (fun K hK => ?_) AllReadyH.nil
  go_simp
  refine (jsmall_at 0 1 _ (by omega) (by omega) (by omega) (by omega)).mono ?_
  rintro e w6 ⟨t1, rfl, h1, b6⟩
  rw [HM1.out] at h1
  go_wp2_with fail
  replace ht := ht.below b6
  replace Ix := Ix.below b6
  replace Iy := Iy.below b6
  replace hr := hr.below b6
  replace Jy := Jy.below b6
  replace h0 := h0.below b6
  replace VA := VA.below b6
  replace VB := VB.below b6
  replace V9 := V9.below b6
  replace VY := VY.below b6
  replace BB := BB.trans (b6.mono BB.size)
  clear b6
  refine hK.out _ _ ?_ (fun hH2 => ?_)
  ·exact ⟨VA.1, VA.2.1⟩
  clear hK K hH1
  (try simp only [Act.put, xL4, xL5, xL6])
  refine wpAnyH_ready (rs := [2]) (by kernel_rfl) (by simp) ?_
  refine AllReadyH.cons (by simp only [xL1, xL2, xL3]; rfl) (fun K hK => ?_) AllReadyH.nil
  go_simp
  refine (jis_at _ _ (0 : Rat) 1 2 _ h0 (qsz_int 0 (by decide) (by omega)) h1 (by omega)).mono ?_
  rintro e w7 ⟨rfl, b7⟩
  go_wp2_with fail
  replace ht := ht.below b7
  replace Ix := Ix.below b7
  replace Iy := Iy.below b7
  replace hr := hr.below b7
  replace Jy := Jy.below b7
  replace h0 := h0.below b7
  replace h1 := h1.below b7
  replace VA := VA.below b7
  replace VB := VB.below b7
  replace V9 := V9.below b7
  replace VY := VY.below b7
  replace BB := BB.trans (b7.mono BB.size)
  clear b7
  refine hK.out _ _ ?_ (fun hH3 => ?_)
  ·exact ⟨VA.1, VA.2.1⟩
  clear hK K hH2
  (try simp only [Act.put, xL4, xL5, xL6])
  refine wpAnyH_take (i := 3) (v := ?_) (by simp only [xL1, xL2, xL3]; rfl) (by kernel_rfl) (by kernel_rfl) (by kernel_rfl) (by exact fun _ _ _ h => h) (Or.inl ⟨by rfl, ?_⟩) (by assumption) ?_
  rotate_left
  ·(intro w hSw; (try dsimp only at hSw); go_simp; (try with_reducible rfl))
  (try simp only [Act.put, xL4, xL5, xL6])
  refine wpAnyH_take (i := 4) (v := ?_) (by simp only [xL1, xL2, xL3]; rfl) (by kernel_rfl) (by kernel_rfl) (by kernel_rfl) (by exact fun _ _ _ h => h) (Or.inl ⟨by rfl, ?_⟩) (by assumption) ?_
  rotate_left
  ·(intro w hSw; (try dsimp only at hSw); go_simp; (try with_reducible rfl))
  (try simp only [Act.put, xL4, xL5, xL6])
  refine wpAnyH_ready (rs := [5]) (by kernel_rfl) (by simp) ?_
  refine AllReadyH.cons (by simp only [xL1, xL2, xL3]; rfl) (fun K hK => ?_) AllReadyH.nil
  go_simp
  refine (qone_at _).mono ?_
  rintro e w8 ⟨t2, rfl, h2, b8⟩
  go_wp2_with fail
  replace ht := ht.below b8
  replace Ix := Ix.below b8
  replace Iy := Iy.below b8
  replace hr := hr.below b8
  replace Jy := Jy.below b8
  replace h0 := h0.below b8
  replace h1 := h1.below b8
  replace VA := VA.below b8
  replace VB := VB.below b8
  replace V9 := V9.below b8
  replace VY := VY.below b8
  replace BB := BB.trans (b8.mono BB.size)
  clear b8
  refine hK.out _ _ ?_ (fun hH4 => ?_)
  ·exact ⟨VA.1, VA.2.1⟩
  clear hK K hH3
  (try simp only [Act.put, xL4, xL5, xL6])
  refine wpAnyH_ready (rs := [6]) (by kernel_rfl) (by simp) ?_
  refine AllReadyH.cons (by simp only [xL1, xL2, xL3]; rfl) (fun K hK => ?_) AllReadyH.nil
  go_simp
  refine (jsmall_at 1 1 _ (by omega) (by omega) (by omega) (by omega)).mono ?_
  rintro e w9 ⟨t3, rfl, h3, b9⟩
  rw [HM1.out] at h3
  go_wp2_with fail
  replace ht := ht.below b9
  replace Ix := Ix.below b9
  replace Iy := Iy.below b9
  replace hr := hr.below b9
  replace Jy := Jy.below b9
  replace h0 := h0.below b9
  replace h1 := h1.below b9
  replace h2 := h2.below b9
  replace VA := VA.below b9
  replace VB := VB.below b9
  replace V9 := V9.below b9
  replace VY := VY.below b9
  replace BB := BB.trans (b9.mono BB.size)
  clear b9
  refine hK.out _ _ ?_ (fun hH5 => ?_)
  ·exact ⟨VA.1, VA.2.1⟩
  clear hK K hH4
  (try simp only [Act.put, xL4, xL5, xL6])
  refine wpAnyH_ready (rs := [7]) (by kernel_rfl) (by simp) ?_
  refine AllReadyH.cons (by simp only [xL1, xL2, xL3]; rfl) (fun K hK => ?_) AllReadyH.nil
  go_simp
  refine (jis_at _ _ (1 : Rat) 1 2 _ h2 (qsz_int 1 nlw_one (by omega)) h3 (by omega)).mono ?_
  rintro e w10 ⟨rfl, b10⟩
  go_wp2_with fail
  replace ht := ht.below b10
  replace Ix := Ix.below b10
  replace Iy := Iy.below b10
  replace hr := hr.below b10
  replace Jy := Jy.below b10
  replace h0 := h0.below b10
  replace h1 := h1.below b10
  replace h2 := h2.below b10
  replace h3 := h3.below b10
  replace VA := VA.below b10
  replace VB := VB.below b10
  replace V9 := V9.below b10
  replace VY := VY.below b10
  replace BB := BB.trans (b10.mono BB.size)
  clear b10
  refine hK.out _ _ ?_ (fun hH6 => ?_)
  ·exact ⟨VA.1, VA.2.1⟩
  clear hK K hH5
  (try simp only [Act.put, xL4, xL5, xL6])
  refine wpAnyH_take (i := 8) (v := ?_) (by simp only [xL1, xL2, xL3]; rfl) (by kernel_rfl) (by kernel_rfl) (by kernel_rfl) (by exact fun _ _ _ h => h) (Or.inl ⟨by rfl, ?_⟩) (by assumption) ?_
  rotate_left
  ·(intro w hSw; (try dsimp only at hSw); go_simp; (try with_reducible rfl))
  (try simp only [Act.put, xL4, xL5, xL6])
  refine wpAnyH_take (i := 9) (v := ?_) (by simp only [xL1, xL2, xL3]; rfl) (by kernel_rfl) (by kernel_rfl) (by kernel_rfl) (by exact fun _ _ _ h => h) (Or.inl ⟨by rfl, ?_⟩) (by assumption) ?_
  rotate_left
  ·(intro w hSw; (try dsimp only at hSw); go_simp; (try with_reducible rfl))
  (try simp only [Act.put, xL4, xL5, xL6])
  refine wpAnyH_take (i := 10) (v := ?_) (by simp only [xL1, xL2, xL3]; rfl) (by kernel_rfl) (by kernel_rfl) (by kernel_rfl) (by exact fun _ _ _ h => h) (Or.inl ⟨by rfl, ?_⟩) (by assumption) ?_
  rotate_left
  ·(intro w hSw; (try dsimp only at hSw); go_simp; (try with_reducible rfl))
  (try simp only [Act.put, xL4, xL5, xL6])
  refine wpAnyH_take (i := 11) (v := ?_) (by simp only [xL1, xL2, xL3]; rfl) (by kernel_rfl) (by kernel_rfl) (by kernel_rfl) (by exact fun _ _ _ h => h) (Or.inl ⟨by rfl, ?_⟩) (by assumption) ?_
  rotate_left
  ·(intro w hSw; (try dsimp only at hSw); go_simp; (try with_reducible rfl))
  (try simp only [Act.put, xL4, xL5, xL6])
  refine wpAnyH_take (i := 13) (v := ?_) (by simp only [xL1, xL2, xL3]; rfl) (by kernel_rfl) (by kernel_rfl) (by kernel_rfl) (by exact fun _ _ _ h => h) (Or.inl ⟨by rfl, ?_⟩) (by assumption) ?_
  rotate_left
  ·(intro w hSw; (try dsimp only at hSw); go_simp; (try with_reducible rfl))
  (try simp only [Act.put, xL4, xL5, xL6])
  refine wpAnyH_ready (rs := [12]) (by kernel_rfl) (by simp) ?_
  refine AllReadyH.cons (by simp only [xL1, xL2, xL3]; rfl) (fun K hK => ?_) AllReadyH.nil
  go_simp
  refine (qof_at k _ (by omega) (by omega)).mono ?_
  rintro e w11 ⟨t4, rfl, h4, b11⟩
  go_wp2_with fail
  replace ht := ht.below b11
  replace Ix := Ix.below b11
  replace Iy := Iy.below b11
  replace hr := hr.below b11
  replace Jy := Jy.below b11
  replace h0 := h0.below b11
  replace h1 := h1.below b11
  replace h2 := h2.below b11
  replace h3 := h3.below b11
  replace VA := VA.below b11
  replace VB := VB.below b11
  replace V9 := V9.below b11
  replace VY := VY.below b11
  replace BB := BB.trans (b11.mono BB.size)
  clear b11
  refine hK.out _ _ ?_ (fun hH7 => ?_)
  ·exact ⟨VA.1, VA.2.1⟩
  clear hK K hH6
  (try simp only [Act.put, xL4, xL5, xL6])
  refine wpAnyH_ready (rs := [14]) (by kernel_rfl) (by simp) ?_
  refine AllReadyH.cons (by simp only [xL1, xL2, xL3]; rfl) (fun K hK => ?_) AllReadyH.nil
  go_simp
  refine (jsmall_at k 1 _ (by omega) (by omega) (by omega) (by omega)).mono ?_
  rintro e w12 ⟨t5, rfl, h5, b12⟩
  rw [HM1.out] at h5
  go_wp2_with fail
  replace ht := ht.below b12
  replace Ix := Ix.below b12
  replace Iy := Iy.below b12
  replace hr := hr.below b12
  replace Jy := Jy.below b12
  replace h0 := h0.below b12
  replace h1 := h1.below b12
  replace h2 := h2.below b12
  replace h3 := h3.below b12
  replace h4 := h4.below b12
  replace VA := VA.below b12
  replace VB := VB.below b12
  replace V9 := V9.below b12
  replace VY := VY.below b12
  replace BB := BB.trans (b12.mono BB.size)
  clear b12
  refine hK.out _ _ ?_ (fun hH8 => ?_)
  ·exact ⟨VA.1, VA.2.1⟩
  clear hK K hH7
  (try simp only [Act.put, xL4, xL5, xL6])
  refine wpAnyH_ready (rs := [15]) (by kernel_rfl) (by simp) ?_
  refine AllReadyH.cons (by simp only [xL1, xL2, xL3]; rfl) (fun K hK => ?_) AllReadyH.nil
  go_simp
  refine (jis_at _ _ (k : Rat) 2 2 _ h4 (qsz_int k lk (by omega)) h5 (by omega)).mono ?_
  rintro e w13 ⟨rfl, b13⟩
  go_wp2_with fail
  replace ht := ht.below b13
  replace Ix := Ix.below b13
  replace Iy := Iy.below b13
  replace hr := hr.below b13
  replace Jy := Jy.below b13
  replace h0 := h0.below b13
  replace h1 := h1.below b13
  replace h2 := h2.below b13
  replace h3 := h3.below b13
  replace h4 := h4.below b13
  replace h5 := h5.below b13
  replace VA := VA.below b13
  replace VB := VB.below b13
  replace V9 := V9.below b13
  replace VY := VY.below b13
  replace BB := BB.trans (b13.mono BB.size)
  clear b13
  refine hK.out _ _ ?_ (fun hH9 => ?_)
  ·exact ⟨VA.1, VA.2.1⟩
  clear hK K hH8
  (try simp only [Act.put, xL4, xL5, xL6])
  refine wpAnyH_take (i := 16) (v := ?_) (by simp only [xL1, xL2, xL3]; rfl) (by kernel_rfl) (by kernel_rfl) (by kernel_rfl) (by exact fun _ _ _ h => h) (Or.inl ⟨by rfl, ?_⟩) (by assumption) ?_
  rotate_left
  ·(intro w hSw; (try dsimp only at hSw); go_simp; (try with_reducible rfl))
  (try simp only [Act.put, xL4, xL5, xL6])
  refine wpAnyH_take (i := 17) (v := ?_) (by simp only [xL1, xL2, xL3]; rfl) (by kernel_rfl) (by kernel_rfl) (by kernel_rfl) (by exact fun _ _ _ h => h) (Or.inl ⟨by rfl, ?_⟩) (by assumption) ?_
  rotate_left
  ·(intro w hSw; (try dsimp only at hSw); go_simp; (try with_reducible rfl))
  (try simp only [Act.put, xL4, xL5, xL6])
  refine wpAnyH_take (i := 18) (v := ?_) (by simp only [xL1, xL2, xL3]; rfl) (by kernel_rfl) (by kernel_rfl) (by kernel_rfl) (by exact fun _ _ _ h => h) (Or.inl ⟨by rfl, ?_⟩) (by assumption) ?_
  rotate_left
  ·(intro w hSw; (try dsimp only at hSw); go_simp; (try with_reducible rfl))
  (try simp only [Act.put, xL4, xL5, xL6])
  refine wpAnyH_take (i := 19) (v := ?_) (by simp only [xL1, xL2, xL3]; rfl) (by kernel_rfl) (by kernel_rfl) (by kernel_rfl) (by exact fun _ _ _ h => h) (Or.inl ⟨by rfl, ?_⟩) (by assumption) ?_
  rotate_left
  ·(intro w hSw; (try dsimp only at hSw); go_simp; (try with_reducible rfl))
  (try simp only [Act.put, xL4, xL5, xL6])
  refine wpAnyH_take (i := 21) (v := ?_) (by simp only [xL1, xL2, xL3]; rfl) (by kernel_rfl) (by kernel_rfl) (by kernel_rfl) (by exact fun _ _ _ h => h) (Or.inl ⟨by rfl, ?_⟩) (by assumption) ?_
  rotate_left
  ·(intro w hSw; (try dsimp only at hSw); go_simp; (try with_reducible rfl))
  (try simp only [Act.put, xL4, xL5, xL6])
  refine wpAnyH_ready (rs := [20]) (by kernel_rfl) (by simp) ?_
  refine AllReadyH.cons (by simp only [xL1, xL2, xL3]; rfl) (fun K hK => ?_) AllReadyH.nil
  go_simp
  refine (qint_at _ a 8 _ Ix).mono ?_
  rintro e w14 ⟨t6, rfl, h6, b14⟩
  go_wp2_with fail
  replace ht := ht.below b14
  replace Ix := Ix.below b14
  replace Iy := Iy.below b14
  replace hr := hr.below b14
  replace Jy := Jy.below b14
  replace h0 := h0.below b14
  replace h1 := h1.below b14
  replace h2 := h2.below b14
  replace h3 := h3.below b14
  replace h4 := h4.below b14
  replace h5 := h5.below b14
  replace VA := VA.below b14
  replace VB := VB.below b14
  replace V9 := V9.below b14
  replace VY := VY.below b14
  replace BB := BB.trans (b14.mono BB.size)
  clear b14
  refine hK.out _ _ ?_ (fun hH10 => ?_)
  ·exact ⟨VA.1, VA.2.1⟩
  clear hK K hH9
  (try simp only [Act.put, xL4, xL5, xL6])
  refine wpAnyH_ready (rs := [22]) (by kernel_rfl) (by simp) ?_
  refine AllReadyH.cons (by simp only [xL1, xL2, xL3]; rfl) (fun K hK => ?_) AllReadyH.nil
  go_simp
  refine (rfrom_any _ a 8 _ Ix (by omega)).mono ?_
  rintro e w15 ⟨t7, rfl, h7, b15⟩
  go_wp2_with fail
  replace ht := ht.below b15
  replace Ix := Ix.below b15
  replace Iy := Iy.below b15
  replace hr := hr.below b15
  replace Jy := Jy.below b15
  replace h0 := h0.below b15
  replace h1 := h1.below b15
  replace h2 := h2.below b15
  replace h3 := h3.below b15
  replace h4 := h4.below b15
  replace h5 := h5.below b15
  replace h6 := h6.below b15
  replace VA := VA.below b15
  replace VB := VB.below b15
  replace V9 := V9.below b15
  replace VY := VY.below b15
  replace BB := BB.trans (b15.mono BB.size)
  clear b15
  refine hK.out _ _ ?_ (fun hH11 => ?_)
  ·exact ⟨VA.1, VA.2.1⟩
  clear hK K hH10
  (try simp only [Act.put, xL4, xL5, xL6])
  refine wpAnyH_ready (rs := [23]) (by kernel_rfl) (by simp) ?_
  refine AllReadyH.cons (by simp only [xL1, xL2, xL3]; rfl) (fun K hK => ?_) AllReadyH.nil
  go_simp
  refine (jwhole_at _ a 8 _ h7 la (by omega)).mono ?_
  rintro e w16 ⟨t8, rfl, h8, b16⟩
  go_wp2_with fail
  replace ht := ht.below b16
  replace Ix := Ix.below b16
  replace Iy := Iy.below b16
  replace hr := hr.below b16
  replace Jy := Jy.below b16
  replace h0 := h0.below b16
  replace h1 := h1.below b16
  replace h2 := h2.below b16
  replace h3 := h3.below b16
  replace h4 := h4.below b16
  replace h5 := h5.below b16
  replace h6 := h6.below b16
  replace h7 := h7.below b16
  replace VA := VA.below b16
  replace VB := VB.below b16
  replace V9 := V9.below b16
  replace VY := VY.below b16
  replace BB := BB.trans (b16.mono BB.size)
  clear b16
  refine hK.out _ _ ?_ (fun hH12 => ?_)
  ·exact ⟨VA.1, VA.2.1⟩
  clear hK K hH11
  (try simp only [Act.put, xL4, xL5, xL6])
  refine wpAnyH_ready (rs := [24]) (by kernel_rfl) (by simp) ?_
  refine AllReadyH.cons (by simp only [xL1, xL2, xL3]; rfl) (fun K hK => ?_) AllReadyH.nil
  go_simp
  refine (jis_at _ _ (a : Rat) 8 8 _ h6 (qsz_int a la (by omega)) h8 (by omega)).mono ?_
  rintro e w17 ⟨rfl, b17⟩
  go_wp2_with fail
  replace ht := ht.below b17
  replace Ix := Ix.below b17
  replace Iy := Iy.below b17
  replace hr := hr.below b17
  replace Jy := Jy.below b17
  replace h0 := h0.below b17
  replace h1 := h1.below b17
  replace h2 := h2.below b17
  replace h3 := h3.below b17
  replace h4 := h4.below b17
  replace h5 := h5.below b17
  replace h6 := h6.below b17
  replace h7 := h7.below b17
  replace h8 := h8.below b17
  replace VA := VA.below b17
  replace VB := VB.below b17
  replace V9 := V9.below b17
  replace VY := VY.below b17
  replace BB := BB.trans (b17.mono BB.size)
  clear b17
  refine hK.out _ _ ?_ (fun hH13 => ?_)
  ·exact ⟨VA.1, VA.2.1⟩
  clear hK K hH12
  (try simp only [Act.put, xL4, xL5, xL6])
  refine wpAnyH_take (i := 25) (v := ?_) (by simp only [xL1, xL2, xL3]; rfl) (by kernel_rfl) (by kernel_rfl) (by kernel_rfl) (by exact fun _ _ _ h => h) (Or.inl ⟨by rfl, ?_⟩) (by assumption) ?_
  rotate_left
  ·(intro w hSw; (try dsimp only at hSw); go_simp; (try with_reducible rfl))
  (try simp only [Act.put, xL4, xL5, xL6])
  refine wpAnyH_take (i := 26) (v := ?_) (by simp only [xL1, xL2, xL3]; rfl) (by kernel_rfl) (by kernel_rfl) (by kernel_rfl) (by exact fun _ _ _ h => h) (Or.inl ⟨by rfl, ?_⟩) (by assumption) ?_
  rotate_left
  ·(intro w hSw; (try dsimp only at hSw); go_simp; (try with_reducible rfl))
  (try simp only [Act.put, xL4, xL5, xL6])
  refine wpAnyH_done (by kernel_rfl) ?_ _
  clear hH13
  clear h0 h1 h2 h3 h4 h5 h6 h7 h8
  go_wp2_with fail
  refine (qfrac_at k l _ (by omega) (by omega) (by omega) (by omega) ht).mono ?_
  rintro e w18 ⟨vf, rfl, hf, b18⟩
  replace ht := ht.below b18
  replace Ix := Ix.below b18
  replace Iy := Iy.below b18
  replace hr := hr.below b18
  replace Jy := Jy.below b18
  replace VA := VA.below b18
  replace VB := VB.below b18
  replace V9 := V9.below b18
  replace VY := VY.below b18
  replace BB := BB.trans (b18.mono BB.size)
  clear b18
  obtain ⟨pf, af, nf, cf, bf, mf, df, rfl⟩ := hf.open
  have hZ6 : w.heap.size ≤ w18.heap.size := BB.size
  have hN6VA : w.heap.size ≠ w18.heap.size := Nat.ne_of_lt VA.lt
  have hN6VB : w.heap.size + 1 ≠ w18.heap.size := Nat.ne_of_lt VB.lt
  have hN6V9 : R3 ≠ w18.heap.size := Nat.ne_of_lt V9.lt
  have hN6VY : R4 ≠ w18.heap.size := Nat.ne_of_lt VY.lt
  obtain ⟨W6, hW6, hS6, hL6, VF⟩ := V3.lay w18 27 (.bool pf) (.slice af nf cf) (.slice bf mf df)
  replace ht := ht.below hL6
  replace Ix := Ix.below hL6
  replace Iy := Iy.below hL6
  replace hr := hr.below hL6
  replace Jy := Jy.below hL6
  replace hf := hf.below hL6
  replace VA := VA.below hL6
  replace VB := VB.below hL6
  replace V9 := V9.below hL6
  replace VY := VY.below hL6
  replace BB := BB.trans (hL6.mono BB.size)
  clear hL6
  go_wp2_with fail
  rw [← hW6]
  generalize w18.heap.size = R6 at *
  clear hW6 hS6
  refine (jsmall_at 0 1 _ (by omega) (by omega) (by omega) (by omega)).mono ?_
  rintro e w19 ⟨vw, rfl, hw, b19⟩
  replace ht := ht.below b19
  replace Ix := Ix.below b19
  replace Iy := Iy.below b19
  replace hr := hr.below b19
  replace Jy := Jy.below b19
  replace hf := hf.below b19
  replace VA := VA.below b19
  replace VB := VB.below b19
  replace V9 := V9.below b19
  replace VY := VY.below b19
  replace VF := VF.below b19
  replace BB := BB.trans (b19.mono BB.size)
  clear b19
  rw [HM1.out] at hw
  obtain ⟨pw, aw, nw, cw, bw, mw, dw, rfl⟩ := hw.open
  have sf : qsz ((k : Rat) / (l : Rat)) ≤ 4 := qsz_div _ _ (qsz_int k lk (by omega)) (qsz_int l ll (by omega))
  by_cases hl0 : l = 0
  ·have hkl : (k : Rat) / (l : Rat) = 0 := by rw [hl0, Rat.intCast_zero, Rat.div_def, Rat.inv_zero, Rat.mul_zero]
   rw [hkl] at hf sf
   have hlz : (l != 0) = false := by simp [hl0]
   clear hl0 hkl
   have hZ7 : w.heap.size ≤ w19.heap.size := BB.size
   have hN7VA : w.heap.size ≠ w19.heap.size := Nat.ne_of_lt VA.lt
   have hN7VB : w.heap.size + 1 ≠ w19.heap.size := Nat.ne_of_lt VB.lt
   have hN7V9 : R3 ≠ w19.heap.size := Nat.ne_of_lt V9.lt
   have hN7VY : R4 ≠ w19.heap.size := Nat.ne_of_lt VY.lt
   have hN7VF : R6 ≠ w19.heap.size := Nat.ne_of_lt VF.lt
   obtain ⟨W7, hW7, hS7, hL7, VW⟩ := V3.lay w19 34 (.bool pw) (.slice aw nw cw) (.slice bw mw dw)
   replace ht := ht.below hL7
   replace Ix := Ix.below hL7
   replace Iy := Iy.below hL7
   replace hr := hr.below hL7
   replace Jy := Jy.below hL7
   replace hf := hf.below hL7
   replace hw := hw.below hL7
   replace VA := VA.below hL7
   replace VB := VB.below hL7
   replace V9 := V9.below hL7
   replace VY := VY.below hL7
   replace VF := VF.below hL7
   replace BB := BB.trans (hL7.mono BB.size)
   clear hL7
   obtain ⟨VF_0, VF_1, VF_2, VF_3, VF_4, VF_5⟩ := id VF
   rw [hW7] at VF_0 VF_1 VF_2 VF_3 VF_4 VF_5
   go_wp2_with fail
   clear VF_0 VF_1 VF_2 VF_3 VF_4 VF_5
   rw [← hW7]
   generalize w19.heap.size = R7 at *
   clear hW7 hS7
   refine (jis_at _ _ (0 : Rat) 4 2 _ hf sf hw (by omega)).mono ?_
   rintro e w20 ⟨rfl, b20⟩
   replace ht := ht.below b20
   replace Ix := Ix.below b20
   replace Iy := Iy.below b20
   replace hr := hr.below b20
   replace Jy := Jy.below b20
   replace hf := hf.below b20
   replace hw := hw.below b20
   replace VA := VA.below b20
   replace VB := VB.below b20
   replace V9 := V9.below b20
   replace VY := VY.below b20
   replace VF := VF.below b20
   replace VW := VW.below b20
   replace BB := BB.trans (b20.mono BB.size)
   clear b20
   clear hf
   clear VF VW
   obtain ⟨VY_0, VY_1, VY_2, VY_3⟩ := id VY
   go_wp2
   clear VY_0 VY_1 VY_2 VY_3
   have hDr : Below w20.heap.size w20 w20.drew := (Below.refl _ _).drew
   replace ht := ht.below hDr
   replace Ix := Ix.below hDr
   replace Iy := Iy.below hDr
   replace hr := hr.below hDr
   replace Jy := Jy.below hDr
   replace hw := hw.below hDr
   replace VA := VA.below hDr
   replace VB := VB.below hDr
   replace V9 := V9.below hDr
   replace VY := VY.below hDr
   replace BB := BB.trans (hDr.mono BB.size)
   clear hDr
   refine wp_region_held_drew (S := (fun w' => w'.cell? ⟨R3, 0, none⟩ = some (.bool p9) ∧ w'.cell? ⟨R3, 1, none⟩ = some (.slice a9 n9 c9) ∧ w'.cell? ⟨R3, 2, none⟩ = some (.slice b9 m9 d9) ∧ w'.cell? ⟨w.heap.size, 0, none⟩ = some (.bool p) ∧ w'.cell? ⟨w.heap.size, 1, none⟩ = some (.slice ao n c) ∧ w'.cell? ⟨R4, 0, none⟩ = some (.bool py) ∧ w'.cell? ⟨R4, 1, none⟩ = some (.slice ay ny cy))) (by kernel_rfl) ?_ (fun hHeld => ?_)
   ·exact ⟨V9.1, V9.2.1, V9.2.2.1, VA.1, VA.2.1, VY.1, VY.2.1⟩
   generalize w20.drew = W8 at *
   refine wpAnyH_take (i := 0) (v := ?_) (by simp only [xL1, xL2, xL3]; rfl) (by kernel_rfl) (by kernel_rfl) (by kernel_rfl) (by exact fun _ _ _ h => h) (Or.inl ⟨by rfl, ?_⟩) (by assumption) ?_
   rotate_left
   ·(intro w hSw; (try dsimp only at hSw); go_simp; (try with_reducible rfl))
   (try simp only [Act.put, xL4, xL5, xL6])
   refine wpAnyH_take (i := 1) (v := ?_) (by simp only [xL1, xL2, xL3]; rfl) (by kernel_rfl) (by kernel_rfl) (by kernel_rfl) (by exact fun _ _ _ h => h) (Or.inl ⟨by rfl, ?_⟩) (by assumption) ?_
   rotate_left
   ·(intro w hSw; (try dsimp only at hSw); go_simp; (try with_reducible rfl))
   (try simp only [Act.put, xL4, xL5, xL6])
   refine wpAnyH_take (i := 2) (v := ?_) (by simp only [xL1, xL2, xL3]; rfl) (by kernel_rfl) (by kernel_rfl) (by kernel_rfl) (by exact fun _ _ _ h => h) (Or.inl ⟨by rfl, ?_⟩) (by assumption) ?_
   rotate_left
   ·(intro w hSw; (try dsimp only at hSw); go_simp; (try with_reducible rfl))
   (try simp only [Act.put, xL4, xL5, xL6])
   refine wpAnyH_take (i := 3) (v := ?_) (by simp only [xL1, xL2, xL3]; rfl) (by kernel_rfl) (by kernel_rfl) (by kernel_rfl) (by exact fun _ _ _ h => h) (Or.inl ⟨by rfl, ?_⟩) (by assumption) ?_
   rotate_left
   ·(intro w hSw; (try dsimp only at hSw); go_simp; (try with_reducible rfl))
   (try simp only [Act.put, xL4, xL5, xL6])
   refine wpAnyH_take (i := 4) (v := ?_) (by simp only [xL1, xL2, xL3]; rfl) (by kernel_rfl) (by kernel_rfl) (by kernel_rfl) (by exact fun _ _ _ h => h) (Or.inl ⟨by rfl, ?_⟩) (by assumption) ?_
   rotate_left
   ·(intro w hSw; (try dsimp only at hSw); go_simp; (try with_reducible rfl))
   (try simp only [Act.put, xL4, xL5, xL6])
   refine wpAnyH_take (i := 7) (v := ?_) (by simp only [xL1, xL2, xL3]; rfl) (by kernel_rfl) (by kernel_rfl) (by kernel_rfl) (by exact fun _ _ _ h => h) (Or.inl ⟨by rfl, ?_⟩) (by assumption) ?_
   rotate_left
   ·(intro w hSw; (try dsimp only at hSw); go_simp; (try with_reducible rfl))
   (try simp only [Act.put, xL4, xL5, xL6])
   refine wpAnyH_ready (rs := [5]) (by kernel_rfl) (by simp) ?_
   refine AllReadyH.cons (by simp only [xL1, xL2, xL3]; rfl) (fun K hK => ?_) AllReadyH.nil
   go_simp
   refine (rfrom_any _ a 8 _ Ix (by omega)).mono ?_
   rintro e w21 ⟨t7, rfl, h7, b21⟩
   go_wp2_with fail
   replace ht := ht.below b21
   replace Ix := Ix.below b21
   replace Iy := Iy.below b21
   replace hr := hr.below b21
   replace Jy := Jy.below b21
   replace hw := hw.below b21
   replace VA := VA.below b21
   replace VB := VB.below b21
   replace V9 := V9.below b21
   replace VY := VY.below b21
   replace BB := BB.trans (b21.mono BB.size)
   clear b21
   refine hK.out _ _ ?_ (fun hH1 => ?_)
   ·exact ⟨V9.1, V9.2.1, V9.2.2.1, VA.1, VA.2.1, VY.1, VY.2.1⟩
   clear hK K hHeld
   (try simp only [Act.put, xL4, xL5, xL6])
   refine wpAnyH_ready (rs := [6]) (by kernel_rfl) (by simp) ?_
   refine AllReadyH.cons (by simp only [xL1, xL2, xL3]; rfl) (fun K hK => ?_) AllReadyH.nil
   go_simp
   refine (jwhole_at _ a 8 _ h7 la (by omega)).mono ?_
   rintro e w22 ⟨t8, rfl, h8, b22⟩
   go_wp2_with fail
   replace ht := ht.below b22
   replace Ix := Ix.below b22
   replace Iy := Iy.below b22
   replace hr := hr.below b22
   replace Jy := Jy.below b22
   replace hw := hw.below b22
   replace h7 := h7.below b22
   replace VA := VA.below b22
   replace VB := VB.below b22
   replace V9 := V9.below b22
   replace VY := VY.below b22
   replace BB := BB.trans (b22.mono BB.size)
   clear b22
   refine hK.out _ _ ?_ (fun hH2 => ?_)
   ·exact ⟨V9.1, V9.2.1, V9.2.2.1, VA.1, VA.2.1, VY.1, VY.2.1⟩
   clear hK K hH1
   (try simp only [Act.put, xL4, xL5, xL6])
   refine wpAnyH_ready (rs := [8]) (by kernel_rfl) (by simp) ?_
   refine AllReadyH.cons (by simp only [xL1, xL2, xL3]; rfl) (fun K hK => ?_) AllReadyH.nil
   go_simp
   refine (jwhole_at _ b 8 _ Jy lb (by omega)).mono ?_
   rintro e w23 ⟨t9, rfl, h9, b23⟩
   go_wp2_with fail
   replace ht := ht.below b23
   replace Ix := Ix.below b23
   replace Iy := Iy.below b23
   replace hr := hr.below b23
   replace Jy := Jy.below b23
   replace hw := hw.below b23
   replace h7 := h7.below b23
   replace h8 := h8.below b23
   replace VA := VA.below b23
   replace VB := VB.below b23
   replace V9 := V9.below b23
   replace VY := VY.below b23
   replace BB := BB.trans (b23.mono BB.size)
   clear b23
   refine hK.out _ _ ?_ (fun hH3 => ?_)
   ·exact ⟨V9.1, V9.2.1, V9.2.2.1, VA.1, VA.2.1, VY.1, VY.2.1⟩
   clear hK K hH2
   (try simp only [Act.put, xL4, xL5, xL6])
   refine wpAnyH_ready (rs := [9]) (by kernel_rfl) (by simp) ?_
   refine AllReadyH.cons (by simp only [xL1, xL2, xL3]; rfl) (fun K hK => ?_) AllReadyH.nil
   go_simp
   refine (jinverse_at _ (b : Rat) 8 _ h9 (by omega) hbr).mono ?_
   rintro e w24 ⟨ta, rfl, g1, b24⟩
   go_wp2_with fail
   replace ht := ht.below b24
   replace Ix := Ix.below b24
   replace Iy := Iy.below b24
   replace hr := hr.below b24
   replace Jy := Jy.below b24
   replace hw := hw.below b24
   replace h7 := h7.below b24
   replace h8 := h8.below b24
   replace h9 := h9.below b24
   replace VA := VA.below b24
   replace VB := VB.below b24
   replace V9 := V9.below b24
   replace VY := VY.below b24
   replace BB := BB.trans (b24.mono BB.size)
   clear b24
   refine hK.out _ _ ?_ (fun hH4 => ?_)
   ·exact ⟨V9.1, V9.2.1, V9.2.2.1, VA.1, VA.2.1, VY.1, VY.2.1⟩
   clear hK K hH3
   (try simp only [Act.put, xL4, xL5, xL6])
   refine wpAnyH_ready (rs := [10]) (by kernel_rfl) (by simp) ?_
   refine AllReadyH.cons (by simp only [xL1, xL2, xL3]; rfl) (fun K hK => ?_) AllReadyH.nil
   go_simp
   refine (jtimes_at _ _ (a : Rat) (b : Rat)⁻¹ 8 8 _ h8 g1 (by omega)).mono ?_
   rintro e w25 ⟨tb, rfl, g2, b25⟩
   go_wp2_with fail
   replace ht := ht.below b25
   replace Ix := Ix.below b25
   replace Iy := Iy.below b25
   replace hr := hr.below b25
   replace Jy := Jy.below b25
   replace hw := hw.below b25
   replace h7 := h7.below b25
   replace h8 := h8.below b25
   replace h9 := h9.below b25
   replace g1 := g1.below b25
   replace VA := VA.below b25
   replace VB := VB.below b25
   replace V9 := V9.below b25
   replace VY := VY.below b25
   replace BB := BB.trans (b25.mono BB.size)
   clear b25
   refine hK.out _ _ ?_ (fun hH5 => ?_)
   ·exact ⟨V9.1, V9.2.1, V9.2.2.1, VA.1, VA.2.1, VY.1, VY.2.1⟩
   clear hK K hH4
   (try simp only [Act.put, xL4, xL5, xL6])
   refine wpAnyH_ready (rs := [11]) (by kernel_rfl) (by simp) ?_
   refine AllReadyH.cons (by simp only [xL1, xL2, xL3]; rfl) (fun K hK => ?_) AllReadyH.nil
   go_simp
   refine (jis_at _ _ ((a : Rat) * (b : Rat)⁻¹) 16 16 _ (by rw [← Rat.div_def]; exact hr) (by rw [← Rat.div_def]; exact sr) g2 (by omega)).mono ?_
   rintro e w26 ⟨rfl, b26⟩
   go_wp2_with fail
   replace ht := ht.below b26
   replace Ix := Ix.below b26
   replace Iy := Iy.below b26
   replace hr := hr.below b26
   replace Jy := Jy.below b26
   replace hw := hw.below b26
   replace h7 := h7.below b26
   replace h8 := h8.below b26
   replace h9 := h9.below b26
   replace g1 := g1.below b26
   replace g2 := g2.below b26
   replace VA := VA.below b26
   replace VB := VB.below b26
   replace V9 := V9.below b26
   replace VY := VY.below b26
   replace BB := BB.trans (b26.mono BB.size)
   clear b26
   refine hK.out _ _ ?_ (fun hH6 => ?_)
   ·exact ⟨V9.1, V9.2.1, V9.2.2.1, VA.1, VA.2.1, VY.1, VY.2.1⟩
   clear hK K hH5
   (try simp only [Act.put, xL4, xL5, xL6])
   refine wpAnyH_take (i := 12) (v := ?_) (by simp only [xL1, xL2, xL3]; rfl) (by kernel_rfl) (by kernel_rfl) (by kernel_rfl) (by exact fun _ _ _ h => h) (Or.inl ⟨by rfl, ?_⟩) (by assumption) ?_
   rotate_left
   ·(intro w hSw; (try dsimp only at hSw); go_simp; (try with_reducible rfl))
   (try simp only [Act.put, xL4, xL5, xL6])
   refine wpAnyH_take (i := 13) (v := ?_) (by simp only [xL1, xL2, xL3]; rfl) (by kernel_rfl) (by kernel_rfl) (by kernel_rfl) (by exact fun _ _ _ h => h) (Or.inl ⟨by rfl, ?_⟩) (by assumption) ?_
   rotate_left
   ·(intro w hSw; (try dsimp only at hSw); go_simp; (try with_reducible rfl))
   (try simp only [Act.put, xL4, xL5, xL6])
   refine wpAnyH_ready (rs := [14]) (by kernel_rfl) (by simp) ?_
   refine AllReadyH.cons (by simp only [xL1, xL2, xL3]; rfl) (fun K hK => ?_) AllReadyH.nil
   go_simp
   refine (qawake_at _ ht).mono ?_
   rintro e w27 ⟨rfl, b27⟩
   go_wp2_with fail
   replace ht := ht.below b27
   replace Ix := Ix.below b27
   replace Iy := Iy.below b27
   replace hr := hr.below b27
   replace Jy := Jy.below b27
   replace hw := hw.below b27
   replace h7 := h7.below b27
   replace h8 := h8.below b27
   replace h9 := h9.below b27
   replace g1 := g1.below b27
   replace g2 := g2.below b27
   replace VA := VA.below b27
   replace VB := VB.below b27
   replace V9 := V9.below b27
   replace VY := VY.below b27
   replace BB := BB.trans (b27.mono BB.size)
   clear b27
   refine hK.out _ _ ?_ (fun hH7 => ?_)
   ·exact ⟨V9.1, V9.2.1, V9.2.2.1, VA.1, VA.2.1, VY.1, VY.2.1⟩
   clear hK K hH6
   (try simp only [Act.put, xL4, xL5, xL6])
   refine wpAnyH_take (i := 15) (v := ?_) (by simp only [xL1, xL2, xL3]; rfl) (by kernel_rfl) (by kernel_rfl) (by kernel_rfl) (by exact fun _ _ _ h => h) (Or.inl ⟨by rfl, ?_⟩) (by assumption) ?_
   rotate_left
   ·(intro w hSw; (try dsimp only at hSw); go_simp; (try with_reducible rfl))
   (try simp only [Act.put, xL4, xL5, xL6])
   refine wpAnyH_take (i := 16) (v := ?_) (by simp only [xL1, xL2, xL3]; rfl) (by kernel_rfl) (by kernel_rfl) (by kernel_rfl) (by exact fun _ _ _ h => h) (Or.inl ⟨by rfl, ?_⟩) (by assumption) ?_
   rotate_left
   ·(intro w hSw; (try dsimp only at hSw); go_simp; (try with_reducible rfl))
   (try simp only [Act.put, xL4, xL5, xL6])
   refine wpAnyH_done (by kernel_rfl) ?_ _
   clear hH7
   go_wp2
   go_ret
   exact ⟨rfl, BB⟩
  ·have hlz : (l != 0) = true := by simp [hl0]
   have hl1 : (l : Rat) ≠ 0 := fun e => hl0 (Rat.intCast_eq_zero_iff.1 e)
   clear hl0
   have hZ7 : w.heap.size ≤ w19.heap.size := BB.size
   have hN7VA : w.heap.size ≠ w19.heap.size := Nat.ne_of_lt VA.lt
   have hN7VB : w.heap.size + 1 ≠ w19.heap.size := Nat.ne_of_lt VB.lt
   have hN7V9 : R3 ≠ w19.heap.size := Nat.ne_of_lt V9.lt
   have hN7VY : R4 ≠ w19.heap.size := Nat.ne_of_lt VY.lt
   have hN7VF : R6 ≠ w19.heap.size := Nat.ne_of_lt VF.lt
   obtain ⟨W7, hW7, hS7, hL7, VW⟩ := V3.lay w19 34 (.bool pw) (.slice aw nw cw) (.slice bw mw dw)
   replace ht := ht.below hL7
   replace Ix := Ix.below hL7
   replace Iy := Iy.below hL7
   replace hr := hr.below hL7
   replace Jy := Jy.below hL7
   replace hf := hf.below hL7
   replace hw := hw.below hL7
   replace VA := VA.below hL7
   replace VB := VB.below hL7
   replace V9 := V9.below hL7
   replace VY := VY.below hL7
   replace VF := VF.below hL7
   replace BB := BB.trans (hL7.mono BB.size)
   clear hL7
   go_wp2_with fail
   rw [← hW7]
   generalize w19.heap.size = R7 at *
   clear hW7 hS7
   refine (jsmall_at k 1 _ (by omega) (by omega) (by omega) (by omega)).mono ?_
   rintro e w20 ⟨s1, rfl, g1, b20⟩
   replace ht := ht.below b20
   replace Ix := Ix.below b20
   replace Iy := Iy.below b20
   replace hr := hr.below b20
   replace Jy := Jy.below b20
   replace hf := hf.below b20
   replace hw := hw.below b20
   replace VA := VA.below b20
   replace VB := VB.below b20
   replace V9 := V9.below b20
   replace VY := VY.below b20
   replace VF := VF.below b20
   replace VW := VW.below b20
   replace BB := BB.trans (b20.mono BB.size)
   clear b20
   rw [HM1.out] at g1
   go_wp2_with fail
   refine (jsmall_at l 1 _ (by omega) (by omega) (by omega) (by omega)).mono ?_
   rintro e w21 ⟨s2, rfl, g2, b21⟩
   replace ht := ht.below b21
   replace Ix := Ix.below b21
   replace Iy := Iy.below b21
   replace hr := hr.below b21
   replace Jy := Jy.below b21
   replace hf := hf.below b21
   replace hw := hw.below b21
   replace g1 := g1.below b21
   replace VA := VA.below b21
   replace VB := VB.below b21
   replace V9 := V9.below b21
   replace VY := VY.below b21
   replace VF := VF.below b21
   replace VW := VW.below b21
   replace BB := BB.trans (b21.mono BB.size)
   clear b21
   rw [HM1.out] at g2
   go_wp2_with fail
   refine (jinverse_at _ (l : Rat) 2 _ g2 (by omega) hl1).mono ?_
   rintro e w22 ⟨s3, rfl, g3, b22⟩
   replace ht := ht.below b22
   replace Ix := Ix.below b22
   replace Iy := Iy.below b22
   replace hr := hr.below b22
   replace Jy := Jy.below b22
   replace hf := hf.below b22
   replace hw := hw.below b22
   replace g1 := g1.below b22
   replace g2 := g2.below b22
   replace VA := VA.below b22
   replace VB := VB.below b22
   replace V9 := V9.below b22
   replace VY := VY.below b22
   replace VF := VF.below b22
   replace VW := VW.below b22
   replace BB := BB.trans (b22.mono BB.size)
   clear b22
   go_wp2_with fail
   refine (jtimes_at _ _ (k : Rat) (l : Rat)⁻¹ 2 2 _ g1 g3 (by omega)).mono ?_
   rintro e w23 ⟨s4, rfl, g4, b23⟩
   replace ht := ht.below b23
   replace Ix := Ix.below b23
   replace Iy := Iy.below b23
   replace hr := hr.below b23
   replace Jy := Jy.below b23
   replace hf := hf.below b23
   replace hw := hw.below b23
   replace g1 := g1.below b23
   replace g2 := g2.below b23
   replace g3 := g3.below b23
   replace VA := VA.below b23
   replace VB := VB.below b23
   replace V9 := V9.below b23
   replace VY := VY.below b23
   replace VF := VF.below b23
   replace VW := VW.below b23
   replace BB := BB.trans (b23.mono BB.size)
   clear b23
   obtain ⟨pw2, aw2, nw2, cw2, bw2, mw2, dw2, rfl⟩ := g4.open
   clear g1 g2 g3 hw
   have hKp := VW.keepJ (.bool pw2) (.slice aw2 nw2 cw2) (.slice bw2 mw2 dw2)
   have VA_n := VA.other3 (R := R7) (by omega) (.bool pw2) (.slice aw2 nw2 cw2) (.slice bw2 mw2 dw2)
   have VB_n := VB.other3 (R := R7) (by omega) (.bool pw2) (.slice aw2 nw2 cw2) (.slice bw2 mw2 dw2)
   have V9_n := V9.other3 (R := R7) (by omega) (.bool pw2) (.slice aw2 nw2 cw2) (.slice bw2 mw2 dw2)
   have VY_n := VY.other3 (R := R7) (by omega) (.bool pw2) (.slice aw2 nw2 cw2) (.slice bw2 mw2 dw2)
   have VF_n := VF.other3 (R := R7) (by omega) (.bool pw2) (.slice aw2 nw2 cw2) (.slice bw2 mw2 dw2)
   have VW_n := VW.same (.bool pw2) (.slice aw2 nw2 cw2) (.slice bw2 mw2 dw2)
   have ht_n := ht.keep hKp
   have Ix_n := Ix.keep hKp
   have Iy_n := Iy.keep hKp
   have hr_n := hr.keep hKp
   have Jy_n := Jy.keep hKp
   have hf_n := hf.keep hKp
   have g4_n := g4.keep hKp
   have BB_n := below_store3 (R := R7) BB (by omega) (.bool pw2) (.slice aw2 nw2 cw2) (.slice bw2 mw2 dw2)
   clear hKp
   obtain ⟨VW_0, VW_1, VW_2, VW_3, VW_4, VW_5⟩ := id VW
   obtain ⟨VF_n0, VF_n1, VF_n2, VF_n3, VF_n4, VF_n5⟩ := id VF_n
   go_wp2_with fail
   clear VW_0 VW_1 VW_2 VW_3 VW_4 VW_5 VF_n0 VF_n1 VF_n2 VF_n3 VF_n4 VF_n5
   clear BB ht Ix Iy hr Jy hf g4 VA VB V9 VY VF VW
   generalize ((w23.setCell ⟨R7, 0, none⟩ (.bool pw2)).setCell ⟨R7, 1, none⟩ (.slice aw2 nw2 cw2)).setCell ⟨R7, 2, none⟩ (.slice bw2 mw2 dw2) = W8 at *
   have BB := BB_n
   have ht := ht_n
   have Ix := Ix_n
   have Iy := Iy_n
   have hr := hr_n
   have Jy := Jy_n
   have hf := hf_n
   have g4 := g4_n
   have VA := VA_n
   have VB := VB_n
   have V9 := V9_n
   have VY := VY_n
   have VF := VF_n
   have VW := VW_n
   clear BB_n ht_n Ix_n Iy_n hr_n Jy_n hf_n g4_n VA_n VB_n V9_n VY_n VF_n VW_n
   refine (jis_at _ _ ((k : Rat) * (l : Rat)⁻¹) 4 4 _ (by rw [← Rat.div_def]; exact hf) (by rw [← Rat.div_def]; exact sf) g4 (by omega)).mono ?_
   rintro e w24 ⟨rfl, b24⟩
   replace ht := ht.below b24
   replace Ix := Ix.below b24
   replace Iy := Iy.below b24
   replace hr := hr.below b24
   replace Jy := Jy.below b24
   replace hf := hf.below b24
   replace g4 := g4.below b24
   replace VA := VA.below b24
   replace VB := VB.below b24
   replace V9 := V9.below b24
   replace VY := VY.below b24
   replace VF := VF.below b24
   replace VW := VW.below b24
   replace BB := BB.trans (b24.mono BB.size)
   clear b24
   clear hf
   clear VF VW
   obtain ⟨VY_0, VY_1, VY_2, VY_3⟩ := id VY
   go_wp2
   clear VY_0 VY_1 VY_2 VY_3
   have hDr : Below w24.heap.size w24 w24.drew := (Below.refl _ _).drew
   replace ht := ht.below hDr
   replace Ix := Ix.below hDr
   replace Iy := Iy.below hDr
   replace hr := hr.below hDr
   replace Jy := Jy.below hDr
   replace g4 := g4.below hDr
   replace VA := VA.below hDr
   replace VB := VB.below hDr
   replace V9 := V9.below hDr
   replace VY := VY.below hDr
   replace BB := BB.trans (hDr.mono BB.size)
   clear hDr
   refine wp_region_held_drew (S := (fun w' => w'.cell? ⟨R3, 0, none⟩ = some (.bool p9) ∧ w'.cell? ⟨R3, 1, none⟩ = some (.slice a9 n9 c9) ∧ w'.cell? ⟨R3, 2, none⟩ = some (.slice b9 m9 d9) ∧ w'.cell? ⟨w.heap.size, 0, none⟩ = some (.bool p) ∧ w'.cell? ⟨w.heap.size, 1, none⟩ = some (.slice ao n c) ∧ w'.cell? ⟨R4, 0, none⟩ = some (.bool py) ∧ w'.cell? ⟨R4, 1, none⟩ = some (.slice ay ny cy))) (by kernel_rfl) ?_ (fun hHeld => ?_)
   ·exact ⟨V9.1, V9.2.1, V9.2.2.1, VA.1, VA.2.1, VY.1, VY.2.1⟩
   generalize w24.drew = W9 at *
   refine wpAnyH_take (i := 0) (v := ?_) (by simp only [xL1, xL2, xL3]; rfl) (by kernel_rfl) (by kernel_rfl) (by kernel_rfl) (by exact fun _ _ _ h => h) (Or.inl ⟨by rfl, ?_⟩) (by assumption) ?_
   rotate_left
   ·(intro w hSw; (try dsimp only at hSw); go_simp; (try with_reducible rfl))
   (try simp only [Act.put, xL4, xL5, xL6])
   refine wpAnyH_take (i := 1) (v := ?_) (by simp only [xL1, xL2, xL3]; rfl) (by kernel_rfl) (by kernel_rfl) (by kernel_rfl) (by exact fun _ _ _ h => h) (Or.inl ⟨by rfl, ?_⟩) (by assumption) ?_
   rotate_left
   ·(intro w hSw; (try dsimp only at hSw); go_simp; (try with_reducible rfl))
   (try simp only [Act.put, xL4, xL5, xL6])
   refine wpAnyH_take (i := 2) (v := ?_) (by simp only [xL1, xL2, xL3]; rfl) (by kernel_rfl) (by kernel_rfl) (by kernel_rfl) (by exact fun _ _ _ h => h) (Or.inl ⟨by rfl, ?_⟩) (by assumption) ?_
   rotate_left
   ·(intro w hSw; (try dsimp only at hSw); go_simp; (try with_reducible rfl))
   (try simp only [Act.put, xL4, xL5, xL6])
   refine wpAnyH_take (i := 3) (v := ?_) (by simp only [xL1, xL2, xL3]; rfl) (by kernel_rfl) (by kernel_rfl) (by kernel_rfl) (by exact fun _ _ _ h => h) (Or.inl ⟨by rfl, ?_⟩) (by assumption) ?_
   rotate_left
   ·(intro w hSw; (try dsimp only at hSw); go_simp; (try with_reducible rfl))
   (try simp only [Act.put, xL4, xL5, xL6])
   refine wpAnyH_take (i := 4) (v := ?_) (by simp only [xL1, xL2, xL3]; rfl) (by kernel_rfl) (by kernel_rfl) (by kernel_rfl) (by exact fun _ _ _ h => h) (Or.inl ⟨by rfl, ?_⟩) (by assumption) ?_
   rotate_left
   ·(intro w hSw; (try dsimp only at hSw); go_simp; (try with_reducible rfl))
   (try simp only [Act.put, xL4, xL5, xL6])
   refine wpAnyH_take (i := 7) (v := ?_) (by simp only [xL1, xL2, xL3]; rfl) (by kernel_rfl) (by kernel_rfl) (by kernel_rfl) (by exact fun _ _ _ h => h) (Or.inl ⟨by rfl, ?_⟩) (by assumption) ?_
   rotate_left
   ·(intro w hSw; (try dsimp only at hSw); go_simp; (try with_reducible rfl))
   (try simp only [Act.put, xL4, xL5, xL6])
   refine wpAnyH_ready (rs := [5]) (by kernel_rfl) (by simp) ?_
   refine AllReadyH.cons (by simp only [xL1, xL2, xL3]; rfl) (fun K hK => ?_) AllReadyH.nil
   go_simp
   refine (rfrom_any _ a 8 _ Ix (by omega)).mono ?_
   rintro e w25 ⟨t7, rfl, h7, b25⟩
   go_wp2_with fail
   replace ht := ht.below b25
   replace Ix := Ix.below b25
   replace Iy := Iy.below b25
   replace hr := hr.below b25
   replace Jy := Jy.below b25
   replace g4 := g4.below b25
   replace VA := VA.below b25
   replace VB := VB.below b25
   replace V9 := V9.below b25
   replace VY := VY.below b25
   replace BB := BB.trans (b25.mono BB.size)
   clear b25
   refine hK.out _ _ ?_ (fun hH1 => ?_)
   ·exact ⟨V9.1, V9.2.1, V9.2.2.1, VA.1, VA.2.1, VY.1, VY.2.1⟩
   clear hK K hHeld
   (try simp only [Act.put, xL4, xL5, xL6])
   refine wpAnyH_ready (rs := [6]) (by kernel_rfl) (by simp) ?_
   refine AllReadyH.cons (by simp only [xL1, xL2, xL3]; rfl) (fun K hK => ?_) AllReadyH.nil
   go_simp
   refine (jwhole_at _ a 8 _ h7 la (by omega)).mono ?_
   rintro e w26 ⟨t8, rfl, h8, b26⟩
   go_wp2_with fail
   replace ht := ht.below b26
   replace Ix := Ix.below b26
   replace Iy := Iy.below b26
   replace hr := hr.below b26
   replace Jy := Jy.below b26
   replace g4 := g4.below b26
   replace h7 := h7.below b26
   replace VA := VA.below b26
   replace VB := VB.below b26
   replace V9 := V9.below b26
   replace VY := VY.below b26
   replace BB := BB.trans (b26.mono BB.size)
   clear b26
   refine hK.out _ _ ?_ (fun hH2 => ?_)
   ·exact ⟨V9.1, V9.2.1, V9.2.2.1, VA.1, VA.2.1, VY.1, VY.2.1⟩
   clear hK K hH1
   (try simp only [Act.put, xL4, xL5, xL6])
   refine wpAnyH_ready (rs := [8]) (by kernel_rfl) (by simp) ?_
   refine AllReadyH.cons (by simp only [xL1, xL2, xL3]; rfl) (fun K hK => ?_) AllReadyH.nil
   go_simp
   refine (jwhole_at _ b 8 _ Jy lb (by omega)).mono ?_
   rintro e w27 ⟨t9, rfl, h9, b27⟩
   go_wp2_with fail
   replace ht := ht.below b27
   replace Ix := Ix.below b27
   replace Iy := Iy.below b27
   replace hr := hr.below b27
   replace Jy := Jy.below b27
   replace g4 := g4.below b27
   replace h7 := h7.below b27
   replace h8 := h8.below b27
   replace VA := VA.below b27
   replace VB := VB.below b27
   replace V9 := V9.below b27
   replace VY := VY.below b27
   replace BB := BB.trans (b27.mono BB.size)
   clear b27
   refine hK.out _ _ ?_ (fun hH3 => ?_)
   ·exact ⟨V9.1, V9.2.1, V9.2.2.1, VA.1, VA.2.1, VY.1, VY.2.1⟩
   clear hK K hH2
   (try simp only [Act.put, xL4, xL5, xL6])
   refine wpAnyH_ready (rs := [9]) (by kernel_rfl) (by simp) ?_
   refine AllReadyH.cons (by simp only [xL1, xL2, xL3]; rfl) (fun K hK => ?_) AllReadyH.nil
   go_simp
   refine (jinverse_at _ (b : Rat) 8 _ h9 (by omega) hbr).mono ?_
   rintro e w28 ⟨ta, rfl, g1, b28⟩
   go_wp2_with fail
   replace ht := ht.below b28
   replace Ix := Ix.below b28
   replace Iy := Iy.below b28
   replace hr := hr.below b28
   replace Jy := Jy.below b28
   replace g4 := g4.below b28
   replace h7 := h7.below b28
   replace h8 := h8.below b28
   replace h9 := h9.below b28
   replace VA := VA.below b28
   replace VB := VB.below b28
   replace V9 := V9.below b28
   replace VY := VY.below b28
   replace BB := BB.trans (b28.mono BB.size)
   clear b28
   refine hK.out _ _ ?_ (fun hH4 => ?_)
   ·exact ⟨V9.1, V9.2.1, V9.2.2.1, VA.1, VA.2.1, VY.1, VY.2.1⟩
   clear hK K hH3
   (try simp only [Act.put, xL4, xL5, xL6])
   refine wpAnyH_ready (rs := [10]) (by kernel_rfl) (by simp) ?_
   refine AllReadyH.cons (by simp only [xL1, xL2, xL3]; rfl) (fun K hK => ?_) AllReadyH.nil
   go_simp
   refine (jtimes_at _ _ (a : Rat) (b : Rat)⁻¹ 8 8 _ h8 g1 (by omega)).mono ?_
   rintro e w29 ⟨tb, rfl, g2, b29⟩
   go_wp2_with fail
   replace ht := ht.below b29
   replace Ix := Ix.below b29
   replace Iy := Iy.below b29
   replace hr := hr.below b29
   replace Jy := Jy.below b29
   replace g4 := g4.below b29
   replace h7 := h7.below b29
   replace h8 := h8.below b29
   replace h9 := h9.below b29
   replace g1 := g1.below b29
   replace VA := VA.below b29
   replace VB := VB.below b29
   replace V9 := V9.below b29
   replace VY := VY.below b29
   replace BB := BB.trans (b29.mono BB.size)
   clear b29
   refine hK.out _ _ ?_ (fun hH5 => ?_)
   ·exact ⟨V9.1, V9.2.1, V9.2.2.1, VA.1, VA.2.1, VY.1, VY.2.1⟩
   clear hK K hH4
   (try simp only [Act.put, xL4, xL5, xL6])
   refine wpAnyH_ready (rs := [11]) (by kernel_rfl) (by simp) ?_
   refine AllReadyH.cons (by simp only [xL1, xL2, xL3]; rfl) (fun K hK => ?_) AllReadyH.nil
   go_simp
   refine (jis_at _ _ ((a : Rat) * (b : Rat)⁻¹) 16 16 _ (by rw [← Rat.div_def]; exact hr) (by rw [← Rat.div_def]; exact sr) g2 (by omega)).mono ?_
   rintro e w30 ⟨rfl, b30⟩
   go_wp2_with fail
   replace ht := ht.below b30
   replace Ix := Ix.below b30
   replace Iy := Iy.below b30
   replace hr := hr.below b30
   replace Jy := Jy.below b30
   replace g4 := g4.below b30
   replace h7 := h7.below b30
   replace h8 := h8.below b30
   replace h9 := h9.below b30
   replace g1 := g1.below b30
   replace g2 := g2.below b30
   replace VA := VA.below b30
   replace VB := VB.below b30
   replace V9 := V9.below b30
   replace VY := VY.below b30
   replace BB := BB.trans (b30.mono BB.size)
   clear b30
   refine hK.out _ _ ?_ (fun hH6 => ?_)
   ·exact ⟨V9.1, V9.2.1, V9.2.2.1, VA.1, VA.2.1, VY.1, VY.2.1⟩
   clear hK K hH5
   (try simp only [Act.put, xL4, xL5, xL6])
   refine wpAnyH_take (i := 12) (v := ?_) (by simp only [xL1, xL2, xL3]; rfl) (by kernel_rfl) (by kernel_rfl) (by kernel_rfl) (by exact fun _ _ _ h => h) (Or.inl ⟨by rfl, ?_⟩) (by assumption) ?_
   rotate_left
   ·(intro w hSw; (try dsimp only at hSw); go_simp; (try with_reducible rfl))
   (try simp only [Act.put, xL4, xL5, xL6])
   refine wpAnyH_take (i := 13) (v := ?_) (by simp only [xL1, xL2, xL3]; rfl) (by kernel_rfl) (by kernel_rfl) (by kernel_rfl) (by exact fun _ _ _ h => h) (Or.inl ⟨by rfl, ?_⟩) (by assumption) ?_
   rotate_left
   ·(intro w hSw; (try dsimp only at hSw); go_simp; (try with_reducible rfl))
   (try simp only [Act.put, xL4, xL5, xL6])
   refine wpAnyH_ready (rs := [14]) (by kernel_rfl) (by simp) ?_
   refine AllReadyH.cons (by simp only [xL1, xL2, xL3]; rfl) (fun K hK => ?_) AllReadyH.nil
   go_simp
   refine (qawake_at _ ht).mono ?_
   rintro e w31 ⟨rfl, b31⟩
   go_wp2_with fail
   replace ht := ht.below b31
   replace Ix := Ix.below b31
   replace Iy := Iy.below b31
   replace hr := hr.below b31
   replace Jy := Jy.below b31
   replace g4 := g4.below b31
   replace h7 := h7.below b31
   replace h8 := h8.below b31
   replace h9 := h9.below b31
   replace g1 := g1.below b31
   replace g2 := g2.below b31
   replace VA := VA.below b31
   replace VB := VB.below b31
   replace V9 := V9.below b31
   replace VY := VY.below b31
   replace BB := BB.trans (b31.mono BB.size)
   clear b31
   refine hK.out _ _ ?_ (fun hH7 => ?_)
   ·exact ⟨V9.1, V9.2.1, V9.2.2.1, VA.1, VA.2.1, VY.1, VY.2.1⟩
   clear hK K hH6
   (try simp only [Act.put, xL4, xL5, xL6])
   refine wpAnyH_take (i := 15) (v := ?_) (by simp only [xL1, xL2, xL3]; rfl) (by kernel_rfl) (by kernel_rfl) (by kernel_rfl) (by exact fun _ _ _ h => h) (Or.inl ⟨by rfl, ?_⟩) (by assumption) ?_
   rotate_left
   ·(intro w hSw; (try dsimp only at hSw); go_simp; (try with_reducible rfl))
   (try simp only [Act.put, xL4, xL5, xL6])
   refine wpAnyH_take (i := 16) (v := ?_) (by simp only [xL1, xL2, xL3]; rfl) (by kernel_rfl) (by kernel_rfl) (by kernel_rfl) (by exact fun _ _ _ h => h) (Or.inl ⟨by rfl, ?_⟩) (by assumption) ?_
   rotate_left
   ·(intro w hSw; (try dsimp only at hSw); go_simp; (try with_reducible rfl))
   (try simp only [Act.put, xL4, xL5, xL6])
   refine wpAnyH_done (by kernel_rfl) ?_ _
   clear hH7
   go_wp2
   go_ret
   exact ⟨rfl, BB⟩

theorem own : ownKnob Tryz.prog.godebug = none := by kernel_rfl
theorem laidOut : laidOutB Tryz.prog = true := by kernel_rfl

abbrev laid1 : List (String × DataW Unit) := [("math/bits.deBruijn64tab", Rows.laid_math_bits_deBruijn64tab)]
theorem gTab : Tryz.prog.globalNamed "math/bits.deBruijn64tab" = some 0 := by kernel_rfl
theorem gTabType : (Tryz.prog.globals[0]?).map (·.type) = some 171 := by kernel_rfl
theorem uTab : Tryz.prog.underlying 171 = some (.array 64 5) := by kernel_rfl
theorem uCell : Tryz.prog.underlying 5 = some (.int .u8) := by kernel_rfl
theorem cCell : Tryz.prog.cellsOf 5 = 1 := by kernel_rfl
theorem cTab : Tryz.prog.cellsOf 171 = 64 := by kernel_rfl
/-- The listed table lies in its cells. -/
theorem tab_of {W : World} (h : laidMetH Tryz.prog laid1 W) : Tab W := by
 rw [MakeChecks.laidMetH_plain _ _ _ (by kernel_rfl)] at h
 have hd : laid1 = [("math/bits.deBruijn64tab", Lib.tabData .u8 (Lib.deBruijn64tab.map fun (n : Nat) => Int.ofNat n))] := rfl
 rw [hd] at h
 have hT := Lib.tabIs_of_head gTab gTabType uTab uCell cCell cTab h
 intro i hi
 have hc := hT.cell gTab i (by rw [List.length_map]; exact hi)
 rw [hc]
 congr 2
 rw [List.getD_eq_getElem?_getD, List.getElem?_map, List.getD_eq_getElem?_getD]
 cases Lib.deBruijn64tab[i]? <;> rfl
/-- A start for the witness: the heap that the run of the program's own initialisers leaves. -/
noncomputable def startW (os : Os) : World := { World.holding Tryz.prog os ⟨#[], #[], []⟩ with heap := (varsWorld Tryz.prog 400 (varsId Tryz.prog) os (fun _ _ => 0)).heap }
theorem start_met (os : Os) (args : Array Value) : laidMetH Tryz.prog laid1 ((startW os).forCall (fun _ _ => 0) ⟨#[], args, []⟩).memory :=
 laidMetH_of_parts3 (fuel := 8) (laidMet_of_run' 8 (by kernel_rfl) (by kernel_rfl)) (by kernel_rfl) (by kernel_rfl)

set_option maxRecDepth 100000 in
theorem lifted (os : Os) (started : os.Started) (H : Type) (enc : TypeId × Value → H) :
  ReturnsInHanded {} Tryz.checked os 4 .any (fun w args => (Rows.ratioMakesSpec.pre enc Tryz.prog Tryz.f4 [] false w args ∧ laidMetH Tryz.prog laid1 w) ∧ sizedMet enc Tryz.prog Tryz.f4 (OpenSpec.ofChange Rows.ratioMakesSpec) false w args) (Rows.ratioMakesSpec.post enc Tryz.prog Tryz.f4 false true false false) := by
 refine returnsInHanded_of_change_and (C := Tryz.checked) (X := fun w _ => laidMetH Tryz.prog laid1 w) (fun _ _ _ hh h => h.of_heap hh) own started (by kernel_rfl) Tryz.func4
  (ChangeSpec.witness_shaped (enc := enc) (C := Tryz.checked) (os := os) (X := fun w _ => laidMetH Tryz.prog laid1 w) false (startW os) #[.agg #[.bool false, .slice none 0 0], .agg #[.bool false, .slice none 0 0], .int .i64 0, .int .i64 0] 8 rfl (World.shaped_of_RefB (by kernel_rfl) (by kernel_rfl)) (by kernel_rfl) (by kernel_rfl) (by kernel_rfl) (start_met os _)) ?_
 intro W base args ds gs before hval0 hW _ _ hL _
 have hval : ∀ (j : Nat) t v, Tryz.f4.params[j]? = some t → args[j]? = some v → Value.okWide Tryz.prog W .any base t v := hval0
 have hW' := hW
 obtain ⟨p, q, hA0, hV, rfl, hfz, hnd⟩ := hW
 have hA : DataW.TrodAll enc Tryz.prog W 0 (fun _ => true) true Tryz.f4.params.toList args.toList ds p := hA0
 rw [Tryz.params4] at hA hval
 obtain ⟨v0, vs0, d0, ds0, p0, q0, hargs, rfl, rfl, h0, r0⟩ := trodAll_cons hA
 obtain ⟨v1, vs1, d1, ds1, p1, q1, rfl, rfl, rfl, h1, r1⟩ := trodAll_cons r0
 obtain ⟨v2, vs2, d2, ds2, p2, q2, rfl, rfl, rfl, h2, r2⟩ := trodAll_cons r1
 obtain ⟨v3, vs3, d3, ds3, p3, q3, rfl, rfl, rfl, h3, r3⟩ := trodAll_cons r2
 obtain ⟨rfl, rfl, rfl⟩ := trodAll_nil r3
 obtain rfl : args = #[v0, v1, v2, v3] := by cases args; simp_all
 obtain ⟨rfl, rfl⟩ := trodVars_none hV
 have k0 := h0
 have lt0 : ∀ x ∈ p0, x.block < W.heap.size := by obtain ⟨m, hm⟩ := k0; exact DataW.trod_lt m _ _ _ hm
 obtain ⟨neg0, ao0, n0, c0, f0, rfl, w0⟩ := open_wint (hval 0 25 v0 rfl rfl) h0
 have k1 := h1
 have lt1 : ∀ x ∈ p1, x.block < W.heap.size := by obtain ⟨m, hm⟩ := k1; exact DataW.trod_lt m _ _ _ hm
 obtain ⟨neg1, ao1, n1, c1, f1, rfl, w1⟩ := open_wint (hval 1 25 v1 rfl rfl) h1
 obtain ⟨a2, rfl, rfl, rfl, w2⟩ := open_int Tryz.underlying3 (hval 2 3 v2 rfl rfl) h2
 obtain ⟨a3, rfl, rfl, rfl, w3⟩ := open_int Tryz.underlying3 (hval 3 3 v3 rfl rfl) h3
 clear hA0 hval0
 refine (walk _ _ _ _ _ _ _ _ a2 a3 W w0 w1 w2 w3 (tab_of hL)).mono fun e W' ⟨he, bel⟩ => ?_
 subst he
 exact ⟨_, rfl, _, _, _, [], _, [], hW', trodAll_mk1 (shut_bool Tryz.underlying4 _), (trodAll_cons_mk (Below.trod laidOut (by kernel_rfl) (of_decide_eq_true (by kernel_rfl)) k0 bel lt0) (trodAll_cons_mk (Below.trod laidOut (by kernel_rfl) (of_decide_eq_true (by kernel_rfl)) k1 bel lt1) (trodAll_cons_mk (shut_int Tryz.underlying3 w2) (trodAll_cons_mk (shut_int Tryz.underlying3 w3) trodAll_mk0)))), rfl, bel.frame _, fun h => by cases h⟩

theorem over : Rows.ratioMakesRow.holds Tryz.pinned (OpenSpec.ofChange Rows.ratioMakesSpec) :=
 OpenClaim.holds_of_wide 4 Tryz.f4 rfl rfl rfl rfl rfl rfl rfl ⟨rfl, rfl, rfl, rfl, rfl⟩ rfl rfl rfl rfl rfl (by kernel_rfl) Tryz.func4 (by kernel_rfl)
  (of_decide_eq_true (by kernel_rfl)) (by unfold Func.isWrapper; first | (rw [if_pos (by decide +kernel)]; kernel_rfl) | (rw [if_neg (by decide +kernel)]; exact ⟨rfl, rfl⟩))
  (fun os started H enc _ => lifted os started H enc)

end Go.Proofs.YtjfacmeeplalkaaGreatDoor.ratioMakes
namespace Go.Proofs.YtjfacmeeplalkaaGreatDoor
/-- The statement: the row, tied to the text of the program. -/
theorem ratioMakes_holds : Rows.RatioMakesCardSaid :=
 Claim7.holds_tied_plain_at .later [] [.data] true (true, "3b39c0c979b75c43741f66fe93b6bee77f2a65889754686cff497ad8f0c2d54c") false
  ratioMakes.over (fun _ h => by cases h) (by kernel_rfl) (fun _ h => by cases h) ratioMakes_row_tie rfl ⟨rfl, rfl⟩ (by kernel_rfl) rfl
  (fun f fn hf hfn => by
   obtain rfl : f = 4 := Option.some.inj ((show Tryz.prog.funcNamed "dendron/dendronlaw03.RatioMakes" = some 4 by kernel_rfl).symm.trans hf) |>.symm
   obtain rfl : fn = Tryz.f4 := (Option.some.inj (Tryz.func4.symm.trans hfn)).symm
   exact ⟨by kernel_rfl, fun j t ht => by
    rw [Tryz.params4] at ht
    have hm : t ∈ [25, 25, 3, 3] := by simpa using Array.mem_of_getElem? ht
    have hall : ([25, 25, 3, 3].all fun u => !Tryz.prog.wantsStandIn u) = true := by kernel_rfl
    exact (show Tryz.prog.wantsStandIn t = false by simpa using List.all_eq_true.1 hall t hm)⟩)
  (by kernel_rfl)
end Go.Proofs.YtjfacmeeplalkaaGreatDoor
