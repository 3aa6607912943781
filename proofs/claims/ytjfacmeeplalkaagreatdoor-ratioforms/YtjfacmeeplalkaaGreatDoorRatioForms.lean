/-
 Proves that Right says which limbs may be a number, and that Clean, Sign, Abs and Neg answer the number that anything of up to 8 limbs above and below is, its sign and amount, whatever comes in (the statement RatioForms, its tied card); the table of math/bits lies as the program's text lays it; no other condition.
-/
import Derived.Test.YtjfacmeeplalkaaGreatDoorJ830739062d
import Derived.Test.YtjfacmeeplalkaaGreatDoorRows
import Derived.Test.YtjfacmeeplalkaaGreatDoorJ019d53d23d
import Derived.Test.YtjfacmeeplalkaaGreatDoorJda0b308322
import Derived.WalkKit
import Derived.ProofKit
import Derived.OpenShut
import Derived.ShutString
import Derived.ChangeOld
import Derived.Below
import Derived.Test.YtjfacmeeplalkaaGreatDoorTie
import Derived.Test.YtjfacmeeplalkaaGreatDoorCards
import Derived.LaidByTextLater
import Derived.LaidHandle
import Derived.Lib.LaidTab
import Derived.SevenTiedAt
namespace Go.Proofs.YtjfacmeeplalkaaGreatDoor.ratioForms
open Go.ChangeShapes Go.WideShapes Go.ChangeAt Go.RowKit
open Go.ChangeMaps (open_string shut_string)
set_option linter.unusedVariables false
set_option linter.unusedSimpArgs false

set_option linter.unusedSimpArgs false
set_option maxRecDepth 100000 in
set_option maxHeartbeats 16000000 in
theorem walk (p : Bool) (ao0 : Option Addr) (n0 c0 : Nat) (bo0 : Option Addr) (m0 d0 : Nat) (f g : Nat → Int) (w : World) (ha1 : Raw w (.slice ao0 n0 c0) n0 f) (ha2 : Raw w (.slice bo0 m0 d0) m0 g) (ht : Tab w) :
  Calls Tryz.prog 3 #[.agg #[.bool p, .slice ao0 n0 c0, .slice bo0 m0 d0]] w fun e w' => e = .returned (.bool true) ∧ Below w.heap.size w w' := by
 have BB : Below w.heap.size w w := Below.refl _ _
 obtain ⟨Wb0, hW0, hS0, hL0, VA⟩ := V3.lay w 27 (.bool p) (.slice ao0 n0 c0) (.slice bo0 m0 d0)
 replace ha1 := ha1.below hL0
 replace ha2 := ha2.below hL0
 replace ht := ht.below hL0
 replace BB := BB.trans (hL0.mono BB.size)
 clear hL0
 go_enter Tryz.func3, Tryz.ntmps3
 go_wp2_with fail
 rw [← hW0]
 clear hW0 hS0
 refine (few_at _ _ _ _ _ _ _ _ ha1 ha2).mono ?_
 rintro e w1 ⟨ao, c, bo, d, rfl, u1, u2, u3, u4, b1⟩
 replace ha1 := ha1.below b1
 replace ha2 := ha2.below b1
 replace ht := ht.below b1
 replace VA := VA.below b1
 replace BB := BB.trans (b1.mono BB.size)
 clear b1
 have k1 : min n0 8 ≤ 8 := Nat.min_le_right _ _
 have k2 : min m0 8 ≤ 8 := Nat.min_le_right _ _
 generalize min n0 8 = n at *
 generalize min m0 8 = m at *
 clear ha1 ha2
 have hKp := VA.keepJ (.bool p) (.slice ao n c) (.slice bo m d)
 have VA_n := VA.same (.bool p) (.slice ao n c) (.slice bo m d)
 have ht_n := ht.keep hKp
 have u1_n := u1.keep hKp
 have u3_n := u3.keep hKp
 have BB_n := below_store3 (R := w.heap.size) BB (by omega) (.bool p) (.slice ao n c) (.slice bo m d)
 clear hKp
 obtain ⟨VA_0, VA_1, VA_2, VA_3, VA_4, VA_5⟩ := id VA
 go_wp2_with fail
 clear VA_0 VA_1 VA_2 VA_3 VA_4 VA_5
 clear BB ht u1 u3 VA
 generalize ((w1.setCell ⟨w.heap.size, 0, none⟩ (.bool p)).setCell ⟨w.heap.size, 1, none⟩ (.slice ao n c)).setCell ⟨w.heap.size, 2, none⟩ (.slice bo m d) = W1 at *
 have BB := BB_n
 have ht := ht_n
 have u1 := u1_n
 have u3 := u3_n
 have VA := VA_n
 clear BB_n ht_n u1_n u3_n VA_n
 have Ix : RatAt W1 _ _ 8 := RatAt.raw (p := p) u1 u2 u3 u4 k1 k2
 generalize mkRat (zof p (num f n)) (num g m) = q at *
 have sq := Ix.qsz (by omega)
 obtain ⟨rb, hrb⟩ : ∃ rb, rqB p f n g m = rb := ⟨_, rfl⟩
 have hrr : (rb == rb) = true := by simp
 have HM1 : Hid (∀ z : Int, mkRat z 1 = (z : Rat)) := fun z => Rat.mkRat_one z
 refine (jfrom_at _ q 8 _ Ix (by omega) (by omega)).mono ?_
 rintro e w2 ⟨vx, rfl, Jx, b2⟩
 replace ht := ht.below b2
 replace u1 := u1.below b2
 replace u3 := u3.below b2
 replace Ix := Ix.below b2
 replace VA := VA.below b2
 replace BB := BB.trans (b2.mono BB.size)
 clear b2
 obtain ⟨px, ax, nx, cx, bx, mx, dx, rfl⟩ := Jx.open
 have hZ2 : w.heap.size ≤ w2.heap.size := BB.size
 have hN2VA : w.heap.size ≠ w2.heap.size := Nat.ne_of_lt VA.lt
 obtain ⟨W2, hW2, hS2, hL2, VX⟩ := V3.lay w2 34 (.bool px) (.slice ax nx cx) (.slice bx mx dx)
 replace ht := ht.below hL2
 replace u1 := u1.below hL2
 replace u3 := u3.below hL2
 replace Ix := Ix.below hL2
 replace Jx := Jx.below hL2
 replace VA := VA.below hL2
 replace BB := BB.trans (hL2.mono BB.size)
 clear hL2
 obtain ⟨VA_0, VA_1, VA_2, VA_3, VA_4, VA_5⟩ := id VA
 rw [hW2] at VA_0 VA_1 VA_2 VA_3 VA_4 VA_5
 go_wp2
 clear VA_0 VA_1 VA_2 VA_3 VA_4 VA_5
 rw [← hW2]
 generalize w2.heap.size = R2 at *
 clear hW2 hS2
 have hcn := cmpQ_neg q 0
 generalize hcc : cmpQ q 0 = cc at *
 have hce : (cc == cc) = true := by simp
 have hDr : Below W2.heap.size W2 W2.drew := (Below.refl _ _).drew
 replace ht := ht.below hDr
 replace u1 := u1.below hDr
 replace u3 := u3.below hDr
 replace Ix := Ix.below hDr
 replace Jx := Jx.below hDr
 replace VA := VA.below hDr
 replace VX := VX.below hDr
 replace BB := BB.trans (hDr.mono BB.size)
 clear hDr
 refine wp_region_held_drew (S := (fun w' => w'.cell? ⟨R2, 0, none⟩ = some (.bool px) ∧ w'.cell? ⟨R2, 1, none⟩ = some (.slice ax nx cx) ∧ w'.cell? ⟨R2, 2, none⟩ = some (.slice bx mx dx))) (by kernel_rfl) ?_ (fun hHeld => ?_)
 ·exact ⟨VX.1, VX.2.1, VX.2.2.1⟩
 generalize W2.drew = W3 at *
 refine wpAnyH_take (i := 0) (v := ?_) (by simp only [xL1, xL2, xL3]; rfl) (by kernel_rfl) (by kernel_rfl) (by kernel_rfl) (by exact fun _ _ _ h => h) (Or.inl ⟨by rfl, ?_⟩) (by assumption) ?_
 rotate_left
 ·(intro w hSw; (try dsimp only at hSw); go_simp; (try with_reducible rfl))
 (try simp only [Act.put, xL4, xL5, xL6])
 refine wpAnyH_ready (rs := [1]) (by kernel_rfl) (by simp) ?_
 refine AllReadyH.cons (by simp only [xL1, xL2, xL3]; rfl) (fun K hK => ?_) AllReadyH.nil
 go_simp
 refine (jsmall_at 0 1 _ (by omega) (by omega) (by omega) (by omega)).mono ?_
 rintro e w3 ⟨t0, rfl, h0, b3⟩
 rw [HM1.out] at h0
 go_wp2_with fail
 replace ht := ht.below b3
 replace u1 := u1.below b3
 replace u3 := u3.below b3
 replace Ix := Ix.below b3
 replace Jx := Jx.below b3
 replace VA := VA.below b3
 replace VX := VX.below b3
 replace BB := BB.trans (b3.mono BB.size)
 clear b3
 refine hK.out _ _ ?_ (fun hH1 => ?_)
 ·exact ⟨VX.1, VX.2.1, VX.2.2.1⟩
 clear hK K hHeld
 (try simp only [Act.put, xL4, xL5, xL6])
 refine wpAnyH_ready (rs := [2]) (by kernel_rfl) (by simp) ?_
 refine AllReadyH.cons (by simp only [xL1, xL2, xL3]; rfl) (fun K hK => ?_) AllReadyH.nil
 go_simp
 refine (jorder_at _ _ q 0 8 2 _ Jx h0 (by omega)).mono ?_
 rintro e w4 ⟨rfl, b4⟩
 rw [hcc]
 go_wp2_with fail
 replace ht := ht.below b4
 replace u1 := u1.below b4
 replace u3 := u3.below b4
 replace Ix := Ix.below b4
 replace Jx := Jx.below b4
 replace h0 := h0.below b4
 replace VA := VA.below b4
 replace VX := VX.below b4
 replace BB := BB.trans (b4.mono BB.size)
 clear b4
 refine hK.out _ _ ?_ (fun hH2 => ?_)
 ·exact ⟨VX.1, VX.2.1, VX.2.2.1⟩
 clear hK K hH1
 (try simp only [Act.put, xL4, xL5, xL6])
 refine wpAnyH_take (i := 3) (v := ?_) (by simp only [xL1, xL2, xL3]; rfl) (by kernel_rfl) (by kernel_rfl) (by kernel_rfl) (by exact fun _ _ _ h => h) (Or.inl ⟨by rfl, ?_⟩) (by assumption) ?_
 rotate_left
 ·(intro w hSw; (try dsimp only at hSw); go_simp; (try with_reducible rfl))
 (try simp only [Act.put, xL4, xL5, xL6])
 refine wpAnyH_done (by kernel_rfl) ?_ _
 clear hH2
 clear h0
 by_cases hq : q < 0
 ·have HA : Hid (absQ q = -q) := if_pos hq
  have hc0 : cc < 0 := of_decide_eq_true (hcn.trans (decide_eq_true hq))
  clear hcn hq
  have sn : qsz (-q) ≤ 8 := by rw [qsz_neg]; exact sq
  obtain ⟨o0, o1, o2, o3, o4, o5⟩ := id VX
  have hZ4 : w.heap.size ≤ w4.heap.size := BB.size
  have hN4VA : w.heap.size ≠ w4.heap.size := Nat.ne_of_lt VA.lt
  have hN4VX : R2 ≠ w4.heap.size := Nat.ne_of_lt VX.lt
  obtain ⟨W4, hW4, hS4, hL4, VS⟩ := V3.lay w4 34 (.bool px) (.slice ax nx cx) (.slice bx mx dx)
  replace ht := ht.below hL4
  replace u1 := u1.below hL4
  replace u3 := u3.below hL4
  replace Ix := Ix.below hL4
  replace Jx := Jx.below hL4
  replace VA := VA.below hL4
  replace VX := VX.below hL4
  replace BB := BB.trans (hL4.mono BB.size)
  clear hL4
  obtain ⟨VX_0, VX_1, VX_2, VX_3, VX_4, VX_5⟩ := id VX
  rw [hW4] at VX_0 VX_1 VX_2 VX_3 VX_4 VX_5
  go_wp2_with fail
  clear VX_0 VX_1 VX_2 VX_3 VX_4 VX_5
  rw [← hW4]
  generalize w4.heap.size = R4 at *
  clear hW4 hS4
  clear o0 o1 o2 o3 o4 o5
  refine (jminus_at _ q 8 _ Jx (by omega)).mono ?_
  rintro e w5 ⟨vs, rfl, Js, b5⟩
  replace ht := ht.below b5
  replace u1 := u1.below b5
  replace u3 := u3.below b5
  replace Ix := Ix.below b5
  replace Jx := Jx.below b5
  replace VA := VA.below b5
  replace VX := VX.below b5
  replace VS := VS.below b5
  replace BB := BB.trans (b5.mono BB.size)
  clear b5
  obtain ⟨ps, as_, ns, cs, bs, ms, ds, rfl⟩ := Js.open
  have hKp := VS.keepJ (.bool ps) (.slice as_ ns cs) (.slice bs ms ds)
  have VA_n := VA.other3 (R := R4) (by omega) (.bool ps) (.slice as_ ns cs) (.slice bs ms ds)
  have VX_n := VX.other3 (R := R4) (by omega) (.bool ps) (.slice as_ ns cs) (.slice bs ms ds)
  have VS_n := VS.same (.bool ps) (.slice as_ ns cs) (.slice bs ms ds)
  have ht_n := ht.keep hKp
  have u1_n := u1.keep hKp
  have u3_n := u3.keep hKp
  have Ix_n := Ix.keep hKp
  have Jx_n := Jx.keep hKp
  have Js_n := Js.keep hKp
  have BB_n := below_store3 (R := R4) BB (by omega) (.bool ps) (.slice as_ ns cs) (.slice bs ms ds)
  clear hKp
  obtain ⟨VS_0, VS_1, VS_2, VS_3, VS_4, VS_5⟩ := id VS
  obtain ⟨VA_n0, VA_n1, VA_n2, VA_n3, VA_n4, VA_n5⟩ := id VA_n
  obtain ⟨VX_n0, VX_n1, VX_n2, VX_n3, VX_n4, VX_n5⟩ := id VX_n
  go_wp2
  clear VS_0 VS_1 VS_2 VS_3 VS_4 VS_5 VA_n0 VA_n1 VA_n2 VA_n3 VA_n4 VA_n5 VX_n0 VX_n1 VX_n2 VX_n3 VX_n4 VX_n5
  clear BB ht u1 u3 Ix Jx Js VA VX VS
  generalize ((w5.setCell ⟨R4, 0, none⟩ (.bool ps)).setCell ⟨R4, 1, none⟩ (.slice as_ ns cs)).setCell ⟨R4, 2, none⟩ (.slice bs ms ds) = W5 at *
  have BB := BB_n
  have ht := ht_n
  have u1 := u1_n
  have u3 := u3_n
  have Ix := Ix_n
  have Jx := Jx_n
  have Js := Js_n
  have VA := VA_n
  have VX := VX_n
  have VS := VS_n
  clear BB_n ht_n u1_n u3_n Ix_n Jx_n Js_n VA_n VX_n VS_n
  have hDr : Below W5.heap.size W5 W5.drew := (Below.refl _ _).drew
  replace ht := ht.below hDr
  replace u1 := u1.below hDr
  replace u3 := u3.below hDr
  replace Ix := Ix.below hDr
  replace Jx := Jx.below hDr
  replace Js := Js.below hDr
  replace VA := VA.below hDr
  replace VX := VX.below hDr
  replace VS := VS.below hDr
  replace BB := BB.trans (hDr.mono BB.size)
  clear hDr
  refine wp_region_held_drew (S := (fun w' => w'.cell? ⟨w.heap.size, 0, none⟩ = some (.bool p) ∧ w'.cell? ⟨w.heap.size, 1, none⟩ = some (.slice ao n c) ∧ w'.cell? ⟨w.heap.size, 2, none⟩ = some (.slice bo m d) ∧ w'.cell? ⟨R2, 0, none⟩ = some (.bool px) ∧ w'.cell? ⟨R2, 1, none⟩ = some (.slice ax nx cx) ∧ w'.cell? ⟨R2, 2, none⟩ = some (.slice bx mx dx) ∧ w'.cell? ⟨R4, 0, none⟩ = some (.bool ps) ∧ w'.cell? ⟨R4, 1, none⟩ = some (.slice as_ ns cs) ∧ w'.cell? ⟨R4, 2, none⟩ = some (.slice bs ms ds))) (by kernel_rfl) ?_ (fun hHeld => ?_)
  ·exact ⟨VA.1, VA.2.1, VA.2.2.1, VX.1, VX.2.1, VX.2.2.1, VS.1, VS.2.1, VS.2.2.1⟩
  generalize W5.drew = W6 at *
  refine wpAnyH_take (i := 0) (v := ?_) (by simp only [xL1, xL2, xL3]; rfl) (by kernel_rfl) (by kernel_rfl) (by kernel_rfl) (by exact fun _ _ _ h => h) (Or.inl ⟨by rfl, ?_⟩) (by assumption) ?_
  rotate_left
  ·(intro w hSw; (try dsimp only at hSw); go_simp; (try with_reducible rfl))
  (try simp only [Act.put, xL4, xL5, xL6])
  refine wpAnyH_take (i := 2) (v := ?_) (by simp only [xL1, xL2, xL3]; rfl) (by kernel_rfl) (by kernel_rfl) (by kernel_rfl) (by exact fun _ _ _ h => h) (Or.inl ⟨by rfl, ?_⟩) (by assumption) ?_
  rotate_left
  ·(intro w hSw; (try dsimp only at hSw); go_simp; (try with_reducible rfl))
  (try simp only [Act.put, xL4, xL5, xL6])
  refine wpAnyH_ready (rs := [1]) (by kernel_rfl) (by simp) ?_
  refine AllReadyH.cons (by simp only [xL1, xL2, xL3]; rfl) (fun K hK => ?_) AllReadyH.nil
  go_simp
  refine (qright_at p ao n c bo m d f g _ u1 u2 k1 u3 u4 k2 ht).mono ?_
  rintro e w6 ⟨rfl, b6⟩
  rw [hrb]
  go_wp2_with fail
  replace ht := ht.below b6
  replace u1 := u1.below b6
  replace u3 := u3.below b6
  replace Ix := Ix.below b6
  replace Jx := Jx.below b6
  replace Js := Js.below b6
  replace VA := VA.below b6
  replace VX := VX.below b6
  replace VS := VS.below b6
  replace BB := BB.trans (b6.mono BB.size)
  clear b6
  refine hK.out _ _ ?_ (fun hH1 => ?_)
  ·exact ⟨VA.1, VA.2.1, VA.2.2.1, VX.1, VX.2.1, VX.2.2.1, VS.1, VS.2.1, VS.2.2.1⟩
  clear hK K hHeld
  (try simp only [Act.put, xL4, xL5, xL6])
  refine wpAnyH_ready (rs := [3]) (by kernel_rfl) (by simp) ?_
  refine AllReadyH.cons (by simp only [xL1, xL2, xL3]; rfl) (fun K hK => ?_) AllReadyH.nil
  go_simp
  refine (jright_at p ao n c bo m d f g _ u1 u2 k1 u3 u4 k2).mono ?_
  rintro e w7 ⟨rfl, b7⟩
  rw [hrb]
  go_wp2_with fail
  replace ht := ht.below b7
  replace u1 := u1.below b7
  replace u3 := u3.below b7
  replace Ix := Ix.below b7
  replace Jx := Jx.below b7
  replace Js := Js.below b7
  replace VA := VA.below b7
  replace VX := VX.below b7
  replace VS := VS.below b7
  replace BB := BB.trans (b7.mono BB.size)
  clear b7
  refine hK.out _ _ ?_ (fun hH2 => ?_)
  ·exact ⟨VA.1, VA.2.1, VA.2.2.1, VX.1, VX.2.1, VX.2.2.1, VS.1, VS.2.1, VS.2.2.1⟩
  clear hK K hH1
  (try simp only [Act.put, xL4, xL5, xL6])
  refine wpAnyH_take (i := 4) (v := ?_) (by simp only [xL1, xL2, xL3]; rfl) (by kernel_rfl) (by kernel_rfl) (by kernel_rfl) (by exact fun _ _ _ h => h) (Or.inl ⟨by rfl, ?_⟩) (by assumption) ?_
  rotate_left
  ·(intro w hSw; (try dsimp only at hSw); go_simp; (try with_reducible rfl))
  (try simp only [Act.put, xL4, xL5, xL6])
  refine wpAnyH_take (i := 5) (v := ?_) (by simp only [xL1, xL2, xL3]; rfl) (by kernel_rfl) (by kernel_rfl) (by kernel_rfl) (by exact fun _ _ _ h => h) (Or.inl ⟨by rfl, ?_⟩) (by assumption) ?_
  rotate_left
  ·(intro w hSw; (try dsimp only at hSw); go_simp; (try with_reducible rfl))
  (try simp only [Act.put, xL4, xL5, xL6])
  refine wpAnyH_take (i := 6) (v := ?_) (by simp only [xL1, xL2, xL3]; rfl) (by kernel_rfl) (by kernel_rfl) (by kernel_rfl) (by exact fun _ _ _ h => h) (Or.inl ⟨by rfl, ?_⟩) (by assumption) ?_
  rotate_left
  ·(intro w hSw; (try dsimp only at hSw); go_simp; (try with_reducible rfl))
  (try simp only [Act.put, xL4, xL5, xL6])
  refine wpAnyH_take (i := 8) (v := ?_) (by simp only [xL1, xL2, xL3]; rfl) (by kernel_rfl) (by kernel_rfl) (by kernel_rfl) (by exact fun _ _ _ h => h) (Or.inl ⟨by rfl, ?_⟩) (by assumption) ?_
  rotate_left
  ·(intro w hSw; (try dsimp only at hSw); go_simp; (try with_reducible rfl))
  (try simp only [Act.put, xL4, xL5, xL6])
  refine wpAnyH_ready (rs := [7]) (by kernel_rfl) (by simp) ?_
  refine AllReadyH.cons (by simp only [xL1, xL2, xL3]; rfl) (fun K hK => ?_) AllReadyH.nil
  go_simp
  refine (qclean_at _ q 8 _ Ix (by omega) (by omega) ht).mono ?_
  rintro e w8 ⟨t0, rfl, h0, b8⟩
  go_wp2_with fail
  replace ht := ht.below b8
  replace u1 := u1.below b8
  replace u3 := u3.below b8
  replace Ix := Ix.below b8
  replace Jx := Jx.below b8
  replace Js := Js.below b8
  replace VA := VA.below b8
  replace VX := VX.below b8
  replace VS := VS.below b8
  replace BB := BB.trans (b8.mono BB.size)
  clear b8
  refine hK.out _ _ ?_ (fun hH3 => ?_)
  ·exact ⟨VA.1, VA.2.1, VA.2.2.1, VX.1, VX.2.1, VX.2.2.1, VS.1, VS.2.1, VS.2.2.1⟩
  clear hK K hH2
  (try simp only [Act.put, xL4, xL5, xL6])
  refine wpAnyH_ready (rs := [9]) (by kernel_rfl) (by simp) ?_
  refine AllReadyH.cons (by simp only [xL1, xL2, xL3]; rfl) (fun K hK => ?_) AllReadyH.nil
  go_simp
  refine (jis_at _ _ q 8 8 _ h0 sq Jx (by omega)).mono ?_
  rintro e w9 ⟨rfl, b9⟩
  go_wp2_with fail
  replace ht := ht.below b9
  replace u1 := u1.below b9
  replace u3 := u3.below b9
  replace Ix := Ix.below b9
  replace Jx := Jx.below b9
  replace Js := Js.below b9
  replace h0 := h0.below b9
  replace VA := VA.below b9
  replace VX := VX.below b9
  replace VS := VS.below b9
  replace BB := BB.trans (b9.mono BB.size)
  clear b9
  refine hK.out _ _ ?_ (fun hH4 => ?_)
  ·exact ⟨VA.1, VA.2.1, VA.2.2.1, VX.1, VX.2.1, VX.2.2.1, VS.1, VS.2.1, VS.2.2.1⟩
  clear hK K hH3
  (try simp only [Act.put, xL4, xL5, xL6])
  refine wpAnyH_take (i := 10) (v := ?_) (by simp only [xL1, xL2, xL3]; rfl) (by kernel_rfl) (by kernel_rfl) (by kernel_rfl) (by exact fun _ _ _ h => h) (Or.inl ⟨by rfl, ?_⟩) (by assumption) ?_
  rotate_left
  ·(intro w hSw; (try dsimp only at hSw); go_simp; (try with_reducible rfl))
  (try simp only [Act.put, xL4, xL5, xL6])
  refine wpAnyH_take (i := 11) (v := ?_) (by simp only [xL1, xL2, xL3]; rfl) (by kernel_rfl) (by kernel_rfl) (by kernel_rfl) (by exact fun _ _ _ h => h) (Or.inl ⟨by rfl, ?_⟩) (by assumption) ?_
  rotate_left
  ·(intro w hSw; (try dsimp only at hSw); go_simp; (try with_reducible rfl))
  (try simp only [Act.put, xL4, xL5, xL6])
  refine wpAnyH_take (i := 12) (v := ?_) (by simp only [xL1, xL2, xL3]; rfl) (by kernel_rfl) (by kernel_rfl) (by kernel_rfl) (by exact fun _ _ _ h => h) (Or.inl ⟨by rfl, ?_⟩) (by assumption) ?_
  rotate_left
  ·(intro w hSw; (try dsimp only at hSw); go_simp; (try with_reducible rfl))
  (try simp only [Act.put, xL4, xL5, xL6])
  refine wpAnyH_take (i := 14) (v := ?_) (by simp only [xL1, xL2, xL3]; rfl) (by kernel_rfl) (by kernel_rfl) (by kernel_rfl) (by exact fun _ _ _ h => h) (Or.inl ⟨by rfl, ?_⟩) (by assumption) ?_
  rotate_left
  ·(intro w hSw; (try dsimp only at hSw); go_simp; (try with_reducible rfl))
  (try simp only [Act.put, xL4, xL5, xL6])
  refine wpAnyH_ready (rs := [13]) (by kernel_rfl) (by simp) ?_
  refine AllReadyH.cons (by simp only [xL1, xL2, xL3]; rfl) (fun K hK => ?_) AllReadyH.nil
  go_simp
  refine (qsign_at _ q 8 _ Ix (by omega) (by omega)).mono ?_
  rintro e w10 ⟨rfl, b10⟩
  rw [hcc]
  go_wp2_with fail
  replace ht := ht.below b10
  replace u1 := u1.below b10
  replace u3 := u3.below b10
  replace Ix := Ix.below b10
  replace Jx := Jx.below b10
  replace Js := Js.below b10
  replace h0 := h0.below b10
  replace VA := VA.below b10
  replace VX := VX.below b10
  replace VS := VS.below b10
  replace BB := BB.trans (b10.mono BB.size)
  clear b10
  refine hK.out _ _ ?_ (fun hH5 => ?_)
  ·exact ⟨VA.1, VA.2.1, VA.2.2.1, VX.1, VX.2.1, VX.2.2.1, VS.1, VS.2.1, VS.2.2.1⟩
  clear hK K hH4
  (try simp only [Act.put, xL4, xL5, xL6])
  refine wpAnyH_take (i := 15) (v := ?_) (by simp only [xL1, xL2, xL3]; rfl) (by kernel_rfl) (by kernel_rfl) (by kernel_rfl) (by exact fun _ _ _ h => h) (Or.inl ⟨by rfl, ?_⟩) (by assumption) ?_
  rotate_left
  ·(intro w hSw; (try dsimp only at hSw); go_simp; (try with_reducible rfl))
  (try simp only [Act.put, xL4, xL5, xL6])
  refine wpAnyH_take (i := 16) (v := ?_) (by simp only [xL1, xL2, xL3]; rfl) (by kernel_rfl) (by kernel_rfl) (by kernel_rfl) (by exact fun _ _ _ h => h) (Or.inl ⟨by rfl, ?_⟩) (by assumption) ?_
  rotate_left
  ·(intro w hSw; (try dsimp only at hSw); go_simp; (try with_reducible rfl))
  (try simp only [Act.put, xL4, xL5, xL6])
  refine wpAnyH_take (i := 17) (v := ?_) (by simp only [xL1, xL2, xL3]; rfl) (by kernel_rfl) (by kernel_rfl) (by kernel_rfl) (by exact fun _ _ _ h => h) (Or.inl ⟨by rfl, ?_⟩) (by assumption) ?_
  rotate_left
  ·(intro w hSw; (try dsimp only at hSw); go_simp; (try with_reducible rfl))
  (try simp only [Act.put, xL4, xL5, xL6])
  refine wpAnyH_take (i := 18) (v := ?_) (by simp only [xL1, xL2, xL3]; rfl) (by kernel_rfl) (by kernel_rfl) (by kernel_rfl) (by exact fun _ _ _ h => h) (Or.inl ⟨by rfl, ?_⟩) (by assumption) ?_
  rotate_left
  ·(intro w hSw; (try dsimp only at hSw); go_simp; (try with_reducible rfl))
  (try simp only [Act.put, xL4, xL5, xL6])
  refine wpAnyH_take (i := 20) (v := ?_) (by simp only [xL1, xL2, xL3]; rfl) (by kernel_rfl) (by kernel_rfl) (by kernel_rfl) (by exact fun _ _ _ h => h) (Or.inl ⟨by rfl, ?_⟩) (by assumption) ?_
  rotate_left
  ·(intro w hSw; (try dsimp only at hSw); go_simp; (try with_reducible rfl))
  (try simp only [Act.put, xL4, xL5, xL6])
  refine wpAnyH_ready (rs := [19]) (by kernel_rfl) (by simp) ?_
  refine AllReadyH.cons (by simp only [xL1, xL2, xL3]; rfl) (fun K hK => ?_) AllReadyH.nil
  go_simp
  refine (qabs_at _ q 8 _ Ix (by omega) (by omega) ht).mono ?_
  rintro e w11 ⟨t1, rfl, h1, b11⟩
  rw [HA.out] at h1
  go_wp2_with fail
  replace ht := ht.below b11
  replace u1 := u1.below b11
  replace u3 := u3.below b11
  replace Ix := Ix.below b11
  replace Jx := Jx.below b11
  replace Js := Js.below b11
  replace h0 := h0.below b11
  replace VA := VA.below b11
  replace VX := VX.below b11
  replace VS := VS.below b11
  replace BB := BB.trans (b11.mono BB.size)
  clear b11
  refine hK.out _ _ ?_ (fun hH6 => ?_)
  ·exact ⟨VA.1, VA.2.1, VA.2.2.1, VX.1, VX.2.1, VX.2.2.1, VS.1, VS.2.1, VS.2.2.1⟩
  clear hK K hH5
  (try simp only [Act.put, xL4, xL5, xL6])
  refine wpAnyH_ready (rs := [21]) (by kernel_rfl) (by simp) ?_
  refine AllReadyH.cons (by simp only [xL1, xL2, xL3]; rfl) (fun K hK => ?_) AllReadyH.nil
  go_simp
  refine (jis_at _ _ (-q) 8 8 _ h1 sn Js (by omega)).mono ?_
  rintro e w12 ⟨rfl, b12⟩
  go_wp2_with fail
  replace ht := ht.below b12
  replace u1 := u1.below b12
  replace u3 := u3.below b12
  replace Ix := Ix.below b12
  replace Jx := Jx.below b12
  replace Js := Js.below b12
  replace h0 := h0.below b12
  replace h1 := h1.below b12
  replace VA := VA.below b12
  replace VX := VX.below b12
  replace VS := VS.below b12
  replace BB := BB.trans (b12.mono BB.size)
  clear b12
  refine hK.out _ _ ?_ (fun hH7 => ?_)
  ·exact ⟨VA.1, VA.2.1, VA.2.2.1, VX.1, VX.2.1, VX.2.2.1, VS.1, VS.2.1, VS.2.2.1⟩
  clear hK K hH6
  (try simp only [Act.put, xL4, xL5, xL6])
  refine wpAnyH_take (i := 22) (v := ?_) (by simp only [xL1, xL2, xL3]; rfl) (by kernel_rfl) (by kernel_rfl) (by kernel_rfl) (by exact fun _ _ _ h => h) (Or.inl ⟨by rfl, ?_⟩) (by assumption) ?_
  rotate_left
  ·(intro w hSw; (try dsimp only at hSw); go_simp; (try with_reducible rfl))
  (try simp only [Act.put, xL4, xL5, xL6])
  refine wpAnyH_take (i := 23) (v := ?_) (by simp only [xL1, xL2, xL3]; rfl) (by kernel_rfl) (by kernel_rfl) (by kernel_rfl) (by exact fun _ _ _ h => h) (Or.inl ⟨by rfl, ?_⟩) (by assumption) ?_
  rotate_left
  ·(intro w hSw; (try dsimp only at hSw); go_simp; (try with_reducible rfl))
  (try simp only [Act.put, xL4, xL5, xL6])
  refine wpAnyH_take (i := 24) (v := ?_) (by simp only [xL1, xL2, xL3]; rfl) (by kernel_rfl) (by kernel_rfl) (by kernel_rfl) (by exact fun _ _ _ h => h) (Or.inl ⟨by rfl, ?_⟩) (by assumption) ?_
  rotate_left
  ·(intro w hSw; (try dsimp only at hSw); go_simp; (try with_reducible rfl))
  (try simp only [Act.put, xL4, xL5, xL6])
  refine wpAnyH_take (i := 26) (v := ?_) (by simp only [xL1, xL2, xL3]; rfl) (by kernel_rfl) (by kernel_rfl) (by kernel_rfl) (by exact fun _ _ _ h => h) (Or.inl ⟨by rfl, ?_⟩) (by assumption) ?_
  rotate_left
  ·(intro w hSw; (try dsimp only at hSw); go_simp; (try with_reducible rfl))
  (try simp only [Act.put, xL4, xL5, xL6])
  refine wpAnyH_ready (rs := [25]) (by kernel_rfl) (by simp) ?_
  refine AllReadyH.cons (by simp only [xL1, xL2, xL3]; rfl) (fun K hK => ?_) AllReadyH.nil
  go_simp
  refine (qneg_at _ q 8 _ Ix (by omega) (by omega) ht).mono ?_
  rintro e w13 ⟨t2, rfl, h2, b13⟩
  go_wp2_with fail
  replace ht := ht.below b13
  replace u1 := u1.below b13
  replace u3 := u3.below b13
  replace Ix := Ix.below b13
  replace Jx := Jx.below b13
  replace Js := Js.below b13
  replace h0 := h0.below b13
  replace h1 := h1.below b13
  replace VA := VA.below b13
  replace VX := VX.below b13
  replace VS := VS.below b13
  replace BB := BB.trans (b13.mono BB.size)
  clear b13
  refine hK.out _ _ ?_ (fun hH8 => ?_)
  ·exact ⟨VA.1, VA.2.1, VA.2.2.1, VX.1, VX.2.1, VX.2.2.1, VS.1, VS.2.1, VS.2.2.1⟩
  clear hK K hH7
  (try simp only [Act.put, xL4, xL5, xL6])
  refine wpAnyH_ready (rs := [27]) (by kernel_rfl) (by simp) ?_
  refine AllReadyH.cons (by simp only [xL1, xL2, xL3]; rfl) (fun K hK => ?_) AllReadyH.nil
  go_simp
  refine (jminus_at _ q 8 _ Jx (by omega)).mono ?_
  rintro e w14 ⟨t3, rfl, h3, b14⟩
  go_wp2_with fail
  replace ht := ht.below b14
  replace u1 := u1.below b14
  replace u3 := u3.below b14
  replace Ix := Ix.below b14
  replace Jx := Jx.below b14
  replace Js := Js.below b14
  replace h0 := h0.below b14
  replace h1 := h1.below b14
  replace h2 := h2.below b14
  replace VA := VA.below b14
  replace VX := VX.below b14
  replace VS := VS.below b14
  replace BB := BB.trans (b14.mono BB.size)
  clear b14
  refine hK.out _ _ ?_ (fun hH9 => ?_)
  ·exact ⟨VA.1, VA.2.1, VA.2.2.1, VX.1, VX.2.1, VX.2.2.1, VS.1, VS.2.1, VS.2.2.1⟩
  clear hK K hH8
  (try simp only [Act.put, xL4, xL5, xL6])
  refine wpAnyH_ready (rs := [28]) (by kernel_rfl) (by simp) ?_
  refine AllReadyH.cons (by simp only [xL1, xL2, xL3]; rfl) (fun K hK => ?_) AllReadyH.nil
  go_simp
  refine (jis_at _ _ (-q) 8 8 _ h2 sn h3 (by omega)).mono ?_
  rintro e w15 ⟨rfl, b15⟩
  go_wp2_with fail
  replace ht := ht.below b15
  replace u1 := u1.below b15
  replace u3 := u3.below b15
  replace Ix := Ix.below b15
  replace Jx := Jx.below b15
  replace Js := Js.below b15
  replace h0 := h0.below b15
  replace h1 := h1.below b15
  replace h2 := h2.below b15
  replace h3 := h3.below b15
  replace VA := VA.below b15
  replace VX := VX.below b15
  replace VS := VS.below b15
  replace BB := BB.trans (b15.mono BB.size)
  clear b15
  refine hK.out _ _ ?_ (fun hH10 => ?_)
  ·exact ⟨VA.1, VA.2.1, VA.2.2.1, VX.1, VX.2.1, VX.2.2.1, VS.1, VS.2.1, VS.2.2.1⟩
  clear hK K hH9
  (try simp only [Act.put, xL4, xL5, xL6])
  refine wpAnyH_take (i := 29) (v := ?_) (by simp only [xL1, xL2, xL3]; rfl) (by kernel_rfl) (by kernel_rfl) (by kernel_rfl) (by exact fun _ _ _ h => h) (Or.inl ⟨by rfl, ?_⟩) (by assumption) ?_
  rotate_left
  ·(intro w hSw; (try dsimp only at hSw); go_simp; (try with_reducible rfl))
  (try simp only [Act.put, xL4, xL5, xL6])
  refine wpAnyH_take (i := 30) (v := ?_) (by simp only [xL1, xL2, xL3]; rfl) (by kernel_rfl) (by kernel_rfl) (by kernel_rfl) (by exact fun _ _ _ h => h) (Or.inl ⟨by rfl, ?_⟩) (by assumption) ?_
  rotate_left
  ·(intro w hSw; (try dsimp only at hSw); go_simp; (try with_reducible rfl))
  (try simp only [Act.put, xL4, xL5, xL6])
  refine wpAnyH_ready (rs := [31]) (by kernel_rfl) (by simp) ?_
  refine AllReadyH.cons (by simp only [xL1, xL2, xL3]; rfl) (fun K hK => ?_) AllReadyH.nil
  go_simp
  refine (qawake_at _ ht).mono ?_
  rintro e w16 ⟨rfl, b16⟩
  go_wp2_with fail
  replace ht := ht.below b16
  replace u1 := u1.below b16
  replace u3 := u3.below b16
  replace Ix := Ix.below b16
  replace Jx := Jx.below b16
  replace Js := Js.below b16
  replace h0 := h0.below b16
  replace h1 := h1.below b16
  replace h2 := h2.below b16
  replace h3 := h3.below b16
  replace VA := VA.below b16
  replace VX := VX.below b16
  replace VS := VS.below b16
  replace BB := BB.trans (b16.mono BB.size)
  clear b16
  refine hK.out _ _ ?_ (fun hH11 => ?_)
  ·exact ⟨VA.1, VA.2.1, VA.2.2.1, VX.1, VX.2.1, VX.2.2.1, VS.1, VS.2.1, VS.2.2.1⟩
  clear hK K hH10
  (try simp only [Act.put, xL4, xL5, xL6])
  refine wpAnyH_take (i := 32) (v := ?_) (by simp only [xL1, xL2, xL3]; rfl) (by kernel_rfl) (by kernel_rfl) (by kernel_rfl) (by exact fun _ _ _ h => h) (Or.inl ⟨by rfl, ?_⟩) (by assumption) ?_
  rotate_left
  ·(intro w hSw; (try dsimp only at hSw); go_simp; (try with_reducible rfl))
  (try simp only [Act.put, xL4, xL5, xL6])
  refine wpAnyH_take (i := 33) (v := ?_) (by simp only [xL1, xL2, xL3]; rfl) (by kernel_rfl) (by kernel_rfl) (by kernel_rfl) (by exact fun _ _ _ h => h) (Or.inl ⟨by rfl, ?_⟩) (by assumption) ?_
  rotate_left
  ·(intro w hSw; (try dsimp only at hSw); go_simp; (try with_reducible rfl))
  (try simp only [Act.put, xL4, xL5, xL6])
  refine wpAnyH_done (by kernel_rfl) ?_ _
  clear hH11
  go_wp2
  go_ret
  exact ⟨rfl, BB⟩
 ·have HA : Hid (absQ q = q) := if_neg hq
  have hc0 : ¬ cc < 0 := of_decide_eq_false (hcn.trans (decide_eq_false hq))
  clear hcn hq
  have sn : qsz (-q) ≤ 8 := by rw [qsz_neg]; exact sq
  obtain ⟨o0, o1, o2, o3, o4, o5⟩ := id VX
  have hZ4 : w.heap.size ≤ w4.heap.size := BB.size
  have hN4VA : w.heap.size ≠ w4.heap.size := Nat.ne_of_lt VA.lt
  have hN4VX : R2 ≠ w4.heap.size := Nat.ne_of_lt VX.lt
  obtain ⟨W4, hW4, hS4, hL4, VS⟩ := V3.lay w4 34 (.bool px) (.slice ax nx cx) (.slice bx mx dx)
  replace ht := ht.below hL4
  replace u1 := u1.below hL4
  replace u3 := u3.below hL4
  replace Ix := Ix.below hL4
  replace Jx := Jx.below hL4
  replace VA := VA.below hL4
  replace VX := VX.below hL4
  replace BB := BB.trans (hL4.mono BB.size)
  clear hL4
  go_wp2
  rw [← hW4]
  generalize w4.heap.size = R4 at *
  clear hW4 hS4
  clear o0 o1 o2 o3 o4 o5
  have hDr : Below W4.heap.size W4 W4.drew := (Below.refl _ _).drew
  replace ht := ht.below hDr
  replace u1 := u1.below hDr
  replace u3 := u3.below hDr
  replace Ix := Ix.below hDr
  replace Jx := Jx.below hDr
  replace VA := VA.below hDr
  replace VX := VX.below hDr
  replace VS := VS.below hDr
  replace BB := BB.trans (hDr.mono BB.size)
  clear hDr
  refine wp_region_held_drew (S := (fun w' => w'.cell? ⟨w.heap.size, 0, none⟩ = some (.bool p) ∧ w'.cell? ⟨w.heap.size, 1, none⟩ = some (.slice ao n c) ∧ w'.cell? ⟨w.heap.size, 2, none⟩ = some (.slice bo m d) ∧ w'.cell? ⟨R2, 0, none⟩ = some (.bool px) ∧ w'.cell? ⟨R2, 1, none⟩ = some (.slice ax nx cx) ∧ w'.cell? ⟨R2, 2, none⟩ = some (.slice bx mx dx) ∧ w'.cell? ⟨R4, 0, none⟩ = some (.bool px) ∧ w'.cell? ⟨R4, 1, none⟩ = some (.slice ax nx cx) ∧ w'.cell? ⟨R4, 2, none⟩ = some (.slice bx mx dx))) (by kernel_rfl) ?_ (fun hHeld => ?_)
  ·exact ⟨VA.1, VA.2.1, VA.2.2.1, VX.1, VX.2.1, VX.2.2.1, VS.1, VS.2.1, VS.2.2.1⟩
  generalize W4.drew = W5 at *
  refine wpAnyH_take (i := 0) (v := ?_) (by simp only [xL1, xL2, xL3]; rfl) (by kernel_rfl) (by kernel_rfl) (by kernel_rfl) (by exact fun _ _ _ h => h) (Or.inl ⟨by rfl, ?_⟩) (by assumption) ?_
  rotate_left
  ·(intro w hSw; (try dsimp only at hSw); go_simp; (try with_reducible rfl))
  (try simp only [Act.put, xL4, xL5, xL6])
  refine wpAnyH_take (i := 2) (v := ?_) (by simp only [xL1, xL2, xL3]; rfl) (by kernel_rfl) (by kernel_rfl) (by kernel_rfl) (by exact fun _ _ _ h => h) (Or.inl ⟨by rfl, ?_⟩) (by assumption) ?_
  rotate_left
  ·(intro w hSw; (try dsimp only at hSw); go_simp; (try with_reducible rfl))
  (try simp only [Act.put, xL4, xL5, xL6])
  refine wpAnyH_ready (rs := [1]) (by kernel_rfl) (by simp) ?_
  refine AllReadyH.cons (by simp only [xL1, xL2, xL3]; rfl) (fun K hK => ?_) AllReadyH.nil
  go_simp
  refine (qright_at p ao n c bo m d f g _ u1 u2 k1 u3 u4 k2 ht).mono ?_
  rintro e w5 ⟨rfl, b5⟩
  rw [hrb]
  go_wp2_with fail
  replace ht := ht.below b5
  replace u1 := u1.below b5
  replace u3 := u3.below b5
  replace Ix := Ix.below b5
  replace Jx := Jx.below b5
  replace VA := VA.below b5
  replace VX := VX.below b5
  replace VS := VS.below b5
  replace BB := BB.trans (b5.mono BB.size)
  clear b5
  refine hK.out _ _ ?_ (fun hH1 => ?_)
  ·exact ⟨VA.1, VA.2.1, VA.2.2.1, VX.1, VX.2.1, VX.2.2.1, VS.1, VS.2.1, VS.2.2.1⟩
  clear hK K hHeld
  (try simp only [Act.put, xL4, xL5, xL6])
  refine wpAnyH_ready (rs := [3]) (by kernel_rfl) (by simp) ?_
  refine AllReadyH.cons (by simp only [xL1, xL2, xL3]; rfl) (fun K hK => ?_) AllReadyH.nil
  go_simp
  refine (jright_at p ao n c bo m d f g _ u1 u2 k1 u3 u4 k2).mono ?_
  rintro e w6 ⟨rfl, b6⟩
  rw [hrb]
  go_wp2_with fail
  replace ht := ht.below b6
  replace u1 := u1.below b6
  replace u3 := u3.below b6
  replace Ix := Ix.below b6
  replace Jx := Jx.below b6
  replace VA := VA.below b6
  replace VX := VX.below b6
  replace VS := VS.below b6
  replace BB := BB.trans (b6.mono BB.size)
  clear b6
  refine hK.out _ _ ?_ (fun hH2 => ?_)
  ·exact ⟨VA.1, VA.2.1, VA.2.2.1, VX.1, VX.2.1, VX.2.2.1, VS.1, VS.2.1, VS.2.2.1⟩
  clear hK K hH1
  (try simp only [Act.put, xL4, xL5, xL6])
  refine wpAnyH_take (i := 4) (v := ?_) (by simp only [xL1, xL2, xL3]; rfl) (by kernel_rfl) (by kernel_rfl) (by kernel_rfl) (by exact fun _ _ _ h => h) (Or.inl ⟨by rfl, ?_⟩) (by assumption) ?_
  rotate_left
  ·(intro w hSw; (try dsimp only at hSw); go_simp; (try with_reducible rfl))
  (try simp only [Act.put, xL4, xL5, xL6])
  refine wpAnyH_take (i := 5) (v := ?_) (by simp only [xL1, xL2, xL3]; rfl) (by kernel_rfl) (by kernel_rfl) (by kernel_rfl) (by exact fun _ _ _ h => h) (Or.inl ⟨by rfl, ?_⟩) (by assumption) ?_
  rotate_left
  ·(intro w hSw; (try dsimp only at hSw); go_simp; (try with_reducible rfl))
  (try simp only [Act.put, xL4, xL5, xL6])
  refine wpAnyH_take (i := 6) (v := ?_) (by simp only [xL1, xL2, xL3]; rfl) (by kernel_rfl) (by kernel_rfl) (by kernel_rfl) (by exact fun _ _ _ h => h) (Or.inl ⟨by rfl, ?_⟩) (by assumption) ?_
  rotate_left
  ·(intro w hSw; (try dsimp only at hSw); go_simp; (try with_reducible rfl))
  (try simp only [Act.put, xL4, xL5, xL6])
  refine wpAnyH_take (i := 8) (v := ?_) (by simp only [xL1, xL2, xL3]; rfl) (by kernel_rfl) (by kernel_rfl) (by kernel_rfl) (by exact fun _ _ _ h => h) (Or.inl ⟨by rfl, ?_⟩) (by assumption) ?_
  rotate_left
  ·(intro w hSw; (try dsimp only at hSw); go_simp; (try with_reducible rfl))
  (try simp only [Act.put, xL4, xL5, xL6])
  refine wpAnyH_ready (rs := [7]) (by kernel_rfl) (by simp) ?_
  refine AllReadyH.cons (by simp only [xL1, xL2, xL3]; rfl) (fun K hK => ?_) AllReadyH.nil
  go_simp
  refine (qclean_at _ q 8 _ Ix (by omega) (by omega) ht).mono ?_
  rintro e w7 ⟨t0, rfl, h0, b7⟩
  go_wp2_with fail
  replace ht := ht.below b7
  replace u1 := u1.below b7
  replace u3 := u3.below b7
  replace Ix := Ix.below b7
  replace Jx := Jx.below b7
  replace VA := VA.below b7
  replace VX := VX.below b7
  replace VS := VS.below b7
  replace BB := BB.trans (b7.mono BB.size)
  clear b7
  refine hK.out _ _ ?_ (fun hH3 => ?_)
  ·exact ⟨VA.1, VA.2.1, VA.2.2.1, VX.1, VX.2.1, VX.2.2.1, VS.1, VS.2.1, VS.2.2.1⟩
  clear hK K hH2
  (try simp only [Act.put, xL4, xL5, xL6])
  refine wpAnyH_ready (rs := [9]) (by kernel_rfl) (by simp) ?_
  refine AllReadyH.cons (by simp only [xL1, xL2, xL3]; rfl) (fun K hK => ?_) AllReadyH.nil
  go_simp
  refine (jis_at _ _ q 8 8 _ h0 sq Jx (by omega)).mono ?_
  rintro e w8 ⟨rfl, b8⟩
  go_wp2_with fail
  replace ht := ht.below b8
  replace u1 := u1.below b8
  replace u3 := u3.below b8
  replace Ix := Ix.below b8
  replace Jx := Jx.below b8
  replace h0 := h0.below b8
  replace VA := VA.below b8
  replace VX := VX.below b8
  replace VS := VS.below b8
  replace BB := BB.trans (b8.mono BB.size)
  clear b8
  refine hK.out _ _ ?_ (fun hH4 => ?_)
  ·exact ⟨VA.1, VA.2.1, VA.2.2.1, VX.1, VX.2.1, VX.2.2.1, VS.1, VS.2.1, VS.2.2.1⟩
  clear hK K hH3
  (try simp only [Act.put, xL4, xL5, xL6])
  refine wpAnyH_take (i := 10) (v := ?_) (by simp only [xL1, xL2, xL3]; rfl) (by kernel_rfl) (by kernel_rfl) (by kernel_rfl) (by exact fun _ _ _ h => h) (Or.inl ⟨by rfl, ?_⟩) (by assumption) ?_
  rotate_left
  ·(intro w hSw; (try dsimp only at hSw); go_simp; (try with_reducible rfl))
  (try simp only [Act.put, xL4, xL5, xL6])
  refine wpAnyH_take (i := 11) (v := ?_) (by simp only [xL1, xL2, xL3]; rfl) (by kernel_rfl) (by kernel_rfl) (by kernel_rfl) (by exact fun _ _ _ h => h) (Or.inl ⟨by rfl, ?_⟩) (by assumption) ?_
  rotate_left
  ·(intro w hSw; (try dsimp only at hSw); go_simp; (try with_reducible rfl))
  (try simp only [Act.put, xL4, xL5, xL6])
  refine wpAnyH_take (i := 12) (v := ?_) (by simp only [xL1, xL2, xL3]; rfl) (by kernel_rfl) (by kernel_rfl) (by kernel_rfl) (by exact fun _ _ _ h => h) (Or.inl ⟨by rfl, ?_⟩) (by assumption) ?_
  rotate_left
  ·(intro w hSw; (try dsimp only at hSw); go_simp; (try with_reducible rfl))
  (try simp only [Act.put, xL4, xL5, xL6])
  refine wpAnyH_take (i := 14) (v := ?_) (by simp only [xL1, xL2, xL3]; rfl) (by kernel_rfl) (by kernel_rfl) (by kernel_rfl) (by exact fun _ _ _ h => h) (Or.inl ⟨by rfl, ?_⟩) (by assumption) ?_
  rotate_left
  ·(intro w hSw; (try dsimp only at hSw); go_simp; (try with_reducible rfl))
  (try simp only [Act.put, xL4, xL5, xL6])
  refine wpAnyH_ready (rs := [13]) (by kernel_rfl) (by simp) ?_
  refine AllReadyH.cons (by simp only [xL1, xL2, xL3]; rfl) (fun K hK => ?_) AllReadyH.nil
  go_simp
  refine (qsign_at _ q 8 _ Ix (by omega) (by omega)).mono ?_
  rintro e w9 ⟨rfl, b9⟩
  rw [hcc]
  go_wp2_with fail
  replace ht := ht.below b9
  replace u1 := u1.below b9
  replace u3 := u3.below b9
  replace Ix := Ix.below b9
  replace Jx := Jx.below b9
  replace h0 := h0.below b9
  replace VA := VA.below b9
  replace VX := VX.below b9
  replace VS := VS.below b9
  replace BB := BB.trans (b9.mono BB.size)
  clear b9
  refine hK.out _ _ ?_ (fun hH5 => ?_)
  ·exact ⟨VA.1, VA.2.1, VA.2.2.1, VX.1, VX.2.1, VX.2.2.1, VS.1, VS.2.1, VS.2.2.1⟩
  clear hK K hH4
  (try simp only [Act.put, xL4, xL5, xL6])
  refine wpAnyH_take (i := 15) (v := ?_) (by simp only [xL1, xL2, xL3]; rfl) (by kernel_rfl) (by kernel_rfl) (by kernel_rfl) (by exact fun _ _ _ h => h) (Or.inl ⟨by rfl, ?_⟩) (by assumption) ?_
  rotate_left
  ·(intro w hSw; (try dsimp only at hSw); go_simp; (try with_reducible rfl))
  (try simp only [Act.put, xL4, xL5, xL6])
  refine wpAnyH_take (i := 16) (v := ?_) (by simp only [xL1, xL2, xL3]; rfl) (by kernel_rfl) (by kernel_rfl) (by kernel_rfl) (by exact fun _ _ _ h => h) (Or.inl ⟨by rfl, ?_⟩) (by assumption) ?_
  rotate_left
  ·(intro w hSw; (try dsimp only at hSw); go_simp; (try with_reducible rfl))
  (try simp only [Act.put, xL4, xL5, xL6])
  refine wpAnyH_take (i := 17) (v := ?_) (by simp only [xL1, xL2, xL3]; rfl) (by kernel_rfl) (by kernel_rfl) (by kernel_rfl) (by exact fun _ _ _ h => h) (Or.inl ⟨by rfl, ?_⟩) (by assumption) ?_
  rotate_left
  ·(intro w hSw; (try dsimp only at hSw); go_simp; (try with_reducible rfl))
  (try simp only [Act.put, xL4, xL5, xL6])
  refine wpAnyH_take (i := 18) (v := ?_) (by simp only [xL1, xL2, xL3]; rfl) (by kernel_rfl) (by kernel_rfl) (by kernel_rfl) (by exact fun _ _ _ h => h) (Or.inl ⟨by rfl, ?_⟩) (by assumption) ?_
  rotate_left
  ·(intro w hSw; (try dsimp only at hSw); go_simp; (try with_reducible rfl))
  (try simp only [Act.put, xL4, xL5, xL6])
  refine wpAnyH_take (i := 20) (v := ?_) (by simp only [xL1, xL2, xL3]; rfl) (by kernel_rfl) (by kernel_rfl) (by kernel_rfl) (by exact fun _ _ _ h => h) (Or.inl ⟨by rfl, ?_⟩) (by assumption) ?_
  rotate_left
  ·(intro w hSw; (try dsimp only at hSw); go_simp; (try with_reducible rfl))
  (try simp only [Act.put, xL4, xL5, xL6])
  refine wpAnyH_ready (rs := [19]) (by kernel_rfl) (by simp) ?_
  refine AllReadyH.cons (by simp only [xL1, xL2, xL3]; rfl) (fun K hK => ?_) AllReadyH.nil
  go_simp
  refine (qabs_at _ q 8 _ Ix (by omega) (by omega) ht).mono ?_
  rintro e w10 ⟨t1, rfl, h1, b10⟩
  rw [HA.out] at h1
  go_wp2_with fail
  replace ht := ht.below b10
  replace u1 := u1.below b10
  replace u3 := u3.below b10
  replace Ix := Ix.below b10
  replace Jx := Jx.below b10
  replace h0 := h0.below b10
  replace VA := VA.below b10
  replace VX := VX.below b10
  replace VS := VS.below b10
  replace BB := BB.trans (b10.mono BB.size)
  clear b10
  refine hK.out _ _ ?_ (fun hH6 => ?_)
  ·exact ⟨VA.1, VA.2.1, VA.2.2.1, VX.1, VX.2.1, VX.2.2.1, VS.1, VS.2.1, VS.2.2.1⟩
  clear hK K hH5
  (try simp only [Act.put, xL4, xL5, xL6])
  refine wpAnyH_ready (rs := [21]) (by kernel_rfl) (by simp) ?_
  refine AllReadyH.cons (by simp only [xL1, xL2, xL3]; rfl) (fun K hK => ?_) AllReadyH.nil
  go_simp
  refine (jis_at _ _ q 8 8 _ h1 sq Jx (by omega)).mono ?_
  rintro e w11 ⟨rfl, b11⟩
  go_wp2_with fail
  replace ht := ht.below b11
  replace u1 := u1.below b11
  replace u3 := u3.below b11
  replace Ix := Ix.below b11
  replace Jx := Jx.below b11
  replace h0 := h0.below b11
  replace h1 := h1.below b11
  replace VA := VA.below b11
  replace VX := VX.below b11
  replace VS := VS.below b11
  replace BB := BB.trans (b11.mono BB.size)
  clear b11
  refine hK.out _ _ ?_ (fun hH7 => ?_)
  ·exact ⟨VA.1, VA.2.1, VA.2.2.1, VX.1, VX.2.1, VX.2.2.1, VS.1, VS.2.1, VS.2.2.1⟩
  clear hK K hH6
  (try simp only [Act.put, xL4, xL5, xL6])
  refine wpAnyH_take (i := 22) (v := ?_) (by simp only [xL1, xL2, xL3]; rfl) (by kernel_rfl) (by kernel_rfl) (by kernel_rfl) (by exact fun _ _ _ h => h) (Or.inl ⟨by rfl, ?_⟩) (by assumption) ?_
  rotate_left
  ·(intro w hSw; (try dsimp only at hSw); go_simp; (try with_reducible rfl))
  (try simp only [Act.put, xL4, xL5, xL6])
  refine wpAnyH_take (i := 23) (v := ?_) (by simp only [xL1, xL2, xL3]; rfl) (by kernel_rfl) (by kernel_rfl) (by kernel_rfl) (by exact fun _ _ _ h => h) (Or.inl ⟨by rfl, ?_⟩) (by assumption) ?_
  rotate_left
  ·(intro w hSw; (try dsimp only at hSw); go_simp; (try with_reducible rfl))
  (try simp only [Act.put, xL4, xL5, xL6])
  refine wpAnyH_take (i := 24) (v := ?_) (by simp only [xL1, xL2, xL3]; rfl) (by kernel_rfl) (by kernel_rfl) (by kernel_rfl) (by exact fun _ _ _ h => h) (Or.inl ⟨by rfl, ?_⟩) (by assumption) ?_
  rotate_left
  ·(intro w hSw; (try dsimp only at hSw); go_simp; (try with_reducible rfl))
  (try simp only [Act.put, xL4, xL5, xL6])
  refine wpAnyH_take (i := 26) (v := ?_) (by simp only [xL1, xL2, xL3]; rfl) (by kernel_rfl) (by kernel_rfl) (by kernel_rfl) (by exact fun _ _ _ h => h) (Or.inl ⟨by rfl, ?_⟩) (by assumption) ?_
  rotate_left
  ·(intro w hSw; (try dsimp only at hSw); go_simp; (try with_reducible rfl))
  (try simp only [Act.put, xL4, xL5, xL6])
  refine wpAnyH_ready (rs := [25]) (by kernel_rfl) (by simp) ?_
  refine AllReadyH.cons (by simp only [xL1, xL2, xL3]; rfl) (fun K hK => ?_) AllReadyH.nil
  go_simp
  refine (qneg_at _ q 8 _ Ix (by omega) (by omega) ht).mono ?_
  rintro e w12 ⟨t2, rfl, h2, b12⟩
  go_wp2_with fail
  replace ht := ht.below b12
  replace u1 := u1.below b12
  replace u3 := u3.below b12
  replace Ix := Ix.below b12
  replace Jx := Jx.below b12
  replace h0 := h0.below b12
  replace h1 := h1.below b12
  replace VA := VA.below b12
  replace VX := VX.below b12
  replace VS := VS.below b12
  replace BB := BB.trans (b12.mono BB.size)
  clear b12
  refine hK.out _ _ ?_ (fun hH8 => ?_)
  ·exact ⟨VA.1, VA.2.1, VA.2.2.1, VX.1, VX.2.1, VX.2.2.1, VS.1, VS.2.1, VS.2.2.1⟩
  clear hK K hH7
  (try simp only [Act.put, xL4, xL5, xL6])
  refine wpAnyH_ready (rs := [27]) (by kernel_rfl) (by simp) ?_
  refine AllReadyH.cons (by simp only [xL1, xL2, xL3]; rfl) (fun K hK => ?_) AllReadyH.nil
  go_simp
  refine (jminus_at _ q 8 _ Jx (by omega)).mono ?_
  rintro e w13 ⟨t3, rfl, h3, b13⟩
  go_wp2_with fail
  replace ht := ht.below b13
  replace u1 := u1.below b13
  replace u3 := u3.below b13
  replace Ix := Ix.below b13
  replace Jx := Jx.below b13
  replace h0 := h0.below b13
  replace h1 := h1.below b13
  replace h2 := h2.below b13
  replace VA := VA.below b13
  replace VX := VX.below b13
  replace VS := VS.below b13
  replace BB := BB.trans (b13.mono BB.size)
  clear b13
  refine hK.out _ _ ?_ (fun hH9 => ?_)
  ·exact ⟨VA.1, VA.2.1, VA.2.2.1, VX.1, VX.2.1, VX.2.2.1, VS.1, VS.2.1, VS.2.2.1⟩
  clear hK K hH8
  (try simp only [Act.put, xL4, xL5, xL6])
  refine wpAnyH_ready (rs := [28]) (by kernel_rfl) (by simp) ?_
  refine AllReadyH.cons (by simp only [xL1, xL2, xL3]; rfl) (fun K hK => ?_) AllReadyH.nil
  go_simp
  refine (jis_at _ _ (-q) 8 8 _ h2 sn h3 (by omega)).mono ?_
  rintro e w14 ⟨rfl, b14⟩
  go_wp2_with fail
  replace ht := ht.below b14
  replace u1 := u1.below b14
  replace u3 := u3.below b14
  replace Ix := Ix.below b14
  replace Jx := Jx.below b14
  replace h0 := h0.below b14
  replace h1 := h1.below b14
  replace h2 := h2.below b14
  replace h3 := h3.below b14
  replace VA := VA.below b14
  replace VX := VX.below b14
  replace VS := VS.below b14
  replace BB := BB.trans (b14.mono BB.size)
  clear b14
  refine hK.out _ _ ?_ (fun hH10 => ?_)
  ·exact ⟨VA.1, VA.2.1, VA.2.2.1, VX.1, VX.2.1, VX.2.2.1, VS.1, VS.2.1, VS.2.2.1⟩
  clear hK K hH9
  (try simp only [Act.put, xL4, xL5, xL6])
  refine wpAnyH_take (i := 29) (v := ?_) (by simp only [xL1, xL2, xL3]; rfl) (by kernel_rfl) (by kernel_rfl) (by kernel_rfl) (by exact fun _ _ _ h => h) (Or.inl ⟨by rfl, ?_⟩) (by assumption) ?_
  rotate_left
  ·(intro w hSw; (try dsimp only at hSw); go_simp; (try with_reducible rfl))
  (try simp only [Act.put, xL4, xL5, xL6])
  refine wpAnyH_take (i := 30) (v := ?_) (by simp only [xL1, xL2, xL3]; rfl) (by kernel_rfl) (by kernel_rfl) (by kernel_rfl) (by exact fun _ _ _ h => h) (Or.inl ⟨by rfl, ?_⟩) (by assumption) ?_
  rotate_left
  ·(intro w hSw; (try dsimp only at hSw); go_simp; (try with_reducible rfl))
  (try simp only [Act.put, xL4, xL5, xL6])
  refine wpAnyH_ready (rs := [31]) (by kernel_rfl) (by simp) ?_
  refine AllReadyH.cons (by simp only [xL1, xL2, xL3]; rfl) (fun K hK => ?_) AllReadyH.nil
  go_simp
  refine (qawake_at _ ht).mono ?_
  rintro e w15 ⟨rfl, b15⟩
  go_wp2_with fail
  replace ht := ht.below b15
  replace u1 := u1.below b15
  replace u3 := u3.below b15
  replace Ix := Ix.below b15
  replace Jx := Jx.below b15
  replace h0 := h0.below b15
  replace h1 := h1.below b15
  replace h2 := h2.below b15
  replace h3 := h3.below b15
  replace VA := VA.below b15
  replace VX := VX.below b15
  replace VS := VS.below b15
  replace BB := BB.trans (b15.mono BB.size)
  clear b15
  refine hK.out _ _ ?_ (fun hH11 => ?_)
  ·exact ⟨VA.1, VA.2.1, VA.2.2.1, VX.1, VX.2.1, VX.2.2.1, VS.1, VS.2.1, VS.2.2.1⟩
  clear hK K hH10
  (try simp only [Act.put, xL4, xL5, xL6])
  refine wpAnyH_take (i := 32) (v := ?_) (by simp only [xL1, xL2, xL3]; rfl) (by kernel_rfl) (by kernel_rfl) (by kernel_rfl) (by exact fun _ _ _ h => h) (Or.inl ⟨by rfl, ?_⟩) (by assumption) ?_
  rotate_left
  ·(intro w hSw; (try dsimp only at hSw); go_simp; (try with_reducible rfl))
  (try simp only [Act.put, xL4, xL5, xL6])
  refine wpAnyH_take (i := 33) (v := ?_) (by simp only [xL1, xL2, xL3]; rfl) (by kernel_rfl) (by kernel_rfl) (by kernel_rfl) (by exact fun _ _ _ h => h) (Or.inl ⟨by rfl, ?_⟩) (by assumption) ?_
  rotate_left
  ·(intro w hSw; (try dsimp only at hSw); go_simp; (try with_reducible rfl))
  (try simp only [Act.put, xL4, xL5, xL6])
  refine wpAnyH_done (by kernel_rfl) ?_ _
  clear hH11
  go_wp2
  go_ret
  exact ⟨rfl, BB⟩

theorem own : ownKnob Tryz.prog.godebug = none := by kernel_rfl
theorem laidOut : laidOutB Tryz.prog = true := by kernel_rfl

abbrev laid1 : List (String × DataW Unit) := [("math/bits.deBruijn64tab", Rows.laid_math_bits_deBruijn64tab)]
theorem gTab : Tryz.prog.globalNamed "math/bits.deBruijn64tab" = some 0 := by kernel_rfl
theorem gTabType : (Tryz.prog.globals[0]?).map (·.type) = some 171 := by kernel_rfl
theorem uTab : Tryz.prog.underlying 171 = some (.array 64 5) := by kernel_rfl
theorem uCell : Tryz.prog.underlying 5 = some (.int .u8) := by kernel_rfl
theorem cCell : Tryz.prog.cellsOf 5 = 1 := by kernel_rfl
theorem cTab : Tryz.prog.cellsOf 171 = 64 := by kernel_rfl
/-- The listed table lies in its cells. -/
theorem tab_of {W : World} (h : laidMetH Tryz.prog laid1 W) : Tab W := by
 rw [MakeChecks.laidMetH_plain _ _ _ (by kernel_rfl)] at h
 have hd : laid1 = [("math/bits.deBruijn64tab", Lib.tabData .u8 (Lib.deBruijn64tab.map fun (n : Nat) => Int.ofNat n))] := rfl
 rw [hd] at h
 have hT := Lib.tabIs_of_head gTab gTabType uTab uCell cCell cTab h
 intro i hi
 have hc := hT.cell gTab i (by rw [List.length_map]; exact hi)
 rw [hc]
 congr 2
 rw [List.getD_eq_getElem?_getD, List.getElem?_map, List.getD_eq_getElem?_getD]
 cases Lib.deBruijn64tab[i]? <;> rfl
/-- A start for the witness: the heap that the run of the program's own initialisers leaves. -/
noncomputable def startW (os : Os) : World := { World.holding Tryz.prog os ⟨#[], #[], []⟩ with heap := (varsWorld Tryz.prog 400 (varsId Tryz.prog) os (fun _ _ => 0)).heap }
theorem start_met (os : Os) (args : Array Value) : laidMetH Tryz.prog laid1 ((startW os).forCall (fun _ _ => 0) ⟨#[], args, []⟩).memory :=
 laidMetH_of_parts3 (fuel := 8) (laidMet_of_run' 8 (by kernel_rfl) (by kernel_rfl)) (by kernel_rfl) (by kernel_rfl)

set_option maxRecDepth 100000 in
theorem lifted (os : Os) (started : os.Started) (H : Type) (enc : TypeId × Value → H) :
  ReturnsInHanded {} Tryz.checked os 3 .any (fun w args => (Rows.ratioFormsSpec.pre enc Tryz.prog Tryz.f3 [] false w args ∧ laidMetH Tryz.prog laid1 w) ∧ sizedMet enc Tryz.prog Tryz.f3 (OpenSpec.ofChange Rows.ratioFormsSpec) false w args) (Rows.ratioFormsSpec.post enc Tryz.prog Tryz.f3 false true false false) := by
 refine returnsInHanded_of_change_and (C := Tryz.checked) (X := fun w _ => laidMetH Tryz.prog laid1 w) (fun _ _ _ hh h => h.of_heap hh) own started (by kernel_rfl) Tryz.func3
  (ChangeSpec.witness_shaped (enc := enc) (C := Tryz.checked) (os := os) (X := fun w _ => laidMetH Tryz.prog laid1 w) false (startW os) #[.agg #[.bool false, .slice none 0 0, .slice none 0 0]] 8 rfl (World.shaped_of_RefB (by kernel_rfl) (by kernel_rfl)) (by kernel_rfl) (by kernel_rfl) (by kernel_rfl) (start_met os _)) ?_
 intro W base args ds gs before hval0 hW _ _ hL _
 have hval : ∀ (j : Nat) t v, Tryz.f3.params[j]? = some t → args[j]? = some v → Value.okWide Tryz.prog W .any base t v := hval0
 have hW' := hW
 obtain ⟨p, q, hA0, hV, rfl, hfz, hnd⟩ := hW
 have hA : DataW.TrodAll enc Tryz.prog W 0 (fun _ => true) true Tryz.f3.params.toList args.toList ds p := hA0
 rw [Tryz.params3] at hA hval
 obtain ⟨v0, vs0, d0, ds0, p0, q0, hargs, rfl, rfl, h0, r0⟩ := trodAll_cons hA
 obtain ⟨rfl, rfl, rfl⟩ := trodAll_nil r0
 obtain rfl : args = #[v0] := by cases args; simp_all
 obtain ⟨rfl, rfl⟩ := trodVars_none hV
 have k0 := h0
 have lt0 : ∀ x ∈ p0, x.block < W.heap.size := by obtain ⟨m, hm⟩ := k0; exact DataW.trod_lt m _ _ _ hm
 obtain ⟨neg0, ao0, n0, c0, bo0, m0, d0, f0, g0, rfl, w0, x0⟩ := open_wrat (hval 0 27 v0 rfl rfl) h0
 clear hA0 hval0
 refine (walk _ _ _ _ _ _ _ _ _ W w0 x0 (tab_of hL)).mono fun e W' ⟨he, bel⟩ => ?_
 subst he
 exact ⟨_, rfl, _, _, _, [], _, [], hW', trodAll_mk1 (shut_bool Tryz.underlying4 _), (trodAll_cons_mk (Below.trod laidOut (by kernel_rfl) (of_decide_eq_true (by kernel_rfl)) k0 bel lt0) trodAll_mk0), rfl, bel.frame _, fun h => by cases h⟩

theorem over : Rows.ratioFormsRow.holds Tryz.pinned (OpenSpec.ofChange Rows.ratioFormsSpec) :=
 OpenClaim.holds_of_wide 3 Tryz.f3 rfl rfl rfl rfl rfl rfl rfl ⟨rfl, rfl, rfl, rfl, rfl⟩ rfl rfl rfl rfl rfl (by kernel_rfl) Tryz.func3 (by kernel_rfl)
  (of_decide_eq_true (by kernel_rfl)) (by unfold Func.isWrapper; first | (rw [if_pos (by decide +kernel)]; kernel_rfl) | (rw [if_neg (by decide +kernel)]; exact ⟨rfl, rfl⟩))
  (fun os started H enc _ => lifted os started H enc)

end Go.Proofs.YtjfacmeeplalkaaGreatDoor.ratioForms
namespace Go.Proofs.YtjfacmeeplalkaaGreatDoor
/-- The statement: the row, tied to the text of the program. -/
theorem ratioForms_holds : Rows.RatioFormsCardSaid :=
 Claim7.holds_tied_plain_at .later [] [.data] true (true, "3b39c0c979b75c43741f66fe93b6bee77f2a65889754686cff497ad8f0c2d54c") false
  ratioForms.over (fun _ h => by cases h) (by kernel_rfl) (fun _ h => by cases h) ratioForms_row_tie rfl ⟨rfl, rfl⟩ (by kernel_rfl) rfl
  (fun f fn hf hfn => by
   obtain rfl : f = 3 := Option.some.inj ((show Tryz.prog.funcNamed "dendron/dendronlaw03.RatioForms" = some 3 by kernel_rfl).symm.trans hf) |>.symm
   obtain rfl : fn = Tryz.f3 := (Option.some.inj (Tryz.func3.symm.trans hfn)).symm
   exact ⟨by kernel_rfl, fun j t ht => by
    rw [Tryz.params3] at ht
    have hm : t ∈ [27] := by simpa using Array.mem_of_getElem? ht
    have hall : ([27].all fun u => !Tryz.prog.wantsStandIn u) = true := by kernel_rfl
    exact (show Tryz.prog.wantsStandIn t = false by simpa using List.all_eq_true.1 hall t hm)⟩)
  (by kernel_rfl)
end Go.Proofs.YtjfacmeeplalkaaGreatDoor
