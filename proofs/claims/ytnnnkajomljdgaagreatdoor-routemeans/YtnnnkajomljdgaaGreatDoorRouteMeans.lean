/-
 Proves that Mean tells the mean of what any model of up to 6 trees of up to 15 nodes predicts of up to 8 rows, or why there is none, whatever comes in (the statement RouteMeans, its tied card); the table of math/bits lies as the program's text lays it; no other condition.
-/
import Derived.Test.YtnnnkajomljdgaaGreatDoorJ88b258d9b9
import Derived.Test.YtnnnkajomljdgaaGreatDoorRows
import Derived.Test.YtnnnkajomljdgaaGreatDoorJ4bb07b6830
import Derived.Test.YtnnnkajomljdgaaGreatDoorJ4503591240
import Derived.Test.YtnnnkajomljdgaaGreatDoorJ99edc7659b
import Derived.Test.YtnnnkajomljdgaaGreatDoorJ31a475c6dc
import Derived.WalkKit
import Derived.ProofKit
import Derived.OpenShut
import Derived.ShutString
import Derived.ChangeOld
import Derived.Below
import Derived.Test.YtnnnkajomljdgaaGreatDoorTie
import Derived.Test.YtnnnkajomljdgaaGreatDoorCards
import Derived.LaidByTextLater
import Derived.LaidHandle
import Derived.Lib.LaidTab
import Derived.SevenTiedAt
namespace Go.Proofs.YtnnnkajomljdgaaGreatDoor.routeMeans
open Go.ChangeShapes Go.WideShapes Go.ChangeAt Go.RowKit
open Go.ChangeMaps (open_string shut_string)
set_option linter.unusedVariables false
set_option linter.unusedSimpArgs false

theorem whyI_zero {F : Int} {k : Nat} {N : Nat → Nat} {T : Nat → Nat → Nd} {nr : Nat} (h : whyI F k N T nr = 0) : mayB F k N T = true ∧ (nr : Int) = F := by
 unfold whyI at h
 by_cases a : mayB F k N T = true
 ·rw [if_pos a] at h
  by_cases b : (nr : Int) = F
  ·exact ⟨a, b⟩
  ·rw [if_neg b] at h; omega
 ·rw [if_neg a] at h; omega

set_option maxRecDepth 100000 in
set_option maxHeartbeats 16000000 in
theorem walk (F : Int) (ao : Option Addr) (c k : Nat) (N : Nat → Nat) (T : Nat → Nat → Nd) (vl : Value) (nl : Nat) (NR : Nat → Nat) (R : Nat → Nat → Cl) (w : World) (hF : I64 F) (hv : MRaw w (.slice ao k c) k N T 4) (hr : ARaw w vl nl NR R 3) (ht : Tab w) :
  Calls Tryz.prog 5 #[.agg #[.int .i64 F, .slice ao k c], vl] w fun e w' => e = .returned (.bool true) ∧ Below w.heap.size w w' := by
 have BB : Below w.heap.size w w := Below.refl _ _
 obtain ⟨Wb0, hW0, hS0, hL0, VM⟩ := V2.lay w 27 (.int .i64 F) (.slice ao k c)
 have ht0 := ht
 replace ht := ht.below hL0
 replace BB := BB.trans (hL0.mono BB.size)
 clear hL0
 go_enter Tryz.func5, Tryz.ntmps5
 obtain ⟨VM_0, VM_1, VM_2, VM_3⟩ := id VM
 rw [hW0] at VM_0 VM_1 VM_2 VM_3
 go_wp2_with fail
 clear VM_0 VM_1 VM_2 VM_3
 rw [← hW0]
 clear hW0 hS0
 have hv1 := hv.below BB
 have hsz : Hid (w.heap.size < Wb0.heap.size) := VM.lt
 refine (few7_at F _ k N T _ hv1).mono ?_
 rintro e w1 ⟨r_, rfl, MO, b1⟩
 replace ht := ht.below b1
 replace VM := VM.below b1
 replace BB := BB.trans (b1.mono BB.size)
 clear b1
 obtain ⟨am, cm, rfl⟩ := MO.form
 clear hv1
 have hk6 : min k 6 ≤ 6 := Nat.min_le_right _ _
 generalize min k 6 = kk at *
 generalize (fun i => min (N i) 15) = NN at *
 obtain ⟨q1, q2, q3, q4⟩ := id VM
 have K1 : KeepQ IsLimb w1 (w1.setCell ⟨w.heap.size, 0, none⟩ (.int .i64 F)) := keepL_set q1 (limb_int _) _
 have K2 := keepL_set (cell_set_by (u := .int .i64 F) (j := 0) q2 (by omega)) (limb_slice _ _ _) (.slice am kk cm)
 have MO_n := (MO.set (a := ⟨w.heap.size, 0, none⟩) (by have := hsz.out; exact this) _ K1).set (a := ⟨w.heap.size, 1, none⟩) (by have := hsz.out; exact this) _ K2
 have VM_n := VM.same (.int .i64 F) (.slice am kk cm)
 have ht_n := (ht.keepL K1).keepL K2
 have BB_n := below_store2 (R := w.heap.size) BB (Nat.le_refl _) (.int .i64 F) (.slice am kk cm)
 obtain ⟨z1, z2, z3, z4⟩ := id VM_n
 go_wp2_with fail
 clear q1 q2 q3 q4 z1 z2 z3 z4 K1 K2 MO VM ht BB
 generalize (w1.setCell ⟨w.heap.size, 0, none⟩ (.int .i64 F)).setCell ⟨w.heap.size, 1, none⟩ (.slice am kk cm) = W3 at *
 have VM := VM_n
 have ht := ht_n
 have BB := BB_n
 have MR := MO_n.row
 clear VM_n ht_n BB_n MO_n ht0
 obtain ⟨ar, cr, rfl, hrc, hr63⟩ := hr.open
 have hr1 := hr.below BB
 refine (all9_at _ nl 8 70 NR R _ hr1 (by omega) (by omega)).mono ?_
 rintro e w6 ⟨vu, rfl, AO, b6⟩
 replace ht := ht.below b6
 replace MR := MR.below b6
 replace VM := VM.below b6
 replace BB := BB.trans (b6.mono BB.size)
 clear b6
 obtain ⟨au, cu, rfl⟩ := AO.form
 have AR : ARow w6 _ (min nl 8) (fun i => min (NR i) 70) R 4 := AO.row.mono (by omega)
 clear AO hr hr1
 have hl8 : min nl 8 ≤ 8 := Nat.min_le_right _ _
 generalize min nl 8 = ll at *
 generalize (fun i => min (NR i) 70) = NQ at *
 obtain ⟨VM_0, VM_1, VM_2, VM_3⟩ := id VM
 go_wp2_with fail
 clear VM_0 VM_1 VM_2 VM_3
 refine (rmean_all F _ _ kk ll NN T NQ R 4 _ MR AR ht (by omega) (by omega) (by omega) (by omega) 31 (by omega) (by omega) (by omega)).mono ?_
 rintro e w7 ⟨vx, e1, rfl, he1, hx, b7⟩
 replace ht := ht.below b7
 replace MR := MR.below b7
 replace AR := AR.below b7
 replace VM := VM.below b7
 replace BB := BB.trans (b7.mono BB.size)
 clear b7
 obtain ⟨p1, a1, n1, c1, y1, m1, d1, rfl⟩ := hx.open
 have HE : Hid (e1 = wantM F kk ll NN T NQ) := he1
 clear he1
 have hZ31 : w.heap.size ≤ w7.heap.size := BB.size
 have hN31VM : w.heap.size ≠ w7.heap.size := Nat.ne_of_lt VM.lt
 obtain ⟨W31, hW31, hS31, hL31, VX⟩ := V3.lay w7 44 (.bool p1) (.slice a1 n1 c1) (.slice y1 m1 d1)
 replace ht := ht.below hL31
 replace MR := MR.below hL31
 replace AR := AR.below hL31
 replace hx := hx.below hL31
 replace VM := VM.below hL31
 replace BB := BB.trans (hL31.mono BB.size)
 clear hL31
 obtain ⟨VX_0, VX_1, VX_2, VX_3, VX_4, VX_5⟩ := id VX
 obtain ⟨VM_0, VM_1, VM_2, VM_3⟩ := id VM
 rw [hW31] at VX_0 VX_1 VX_2 VX_3 VX_4 VX_5 VM_0 VM_1 VM_2 VM_3
 go_wp2_with fail
 clear VX_0 VX_1 VX_2 VX_3 VX_4 VX_5 VM_0 VM_1 VM_2 VM_3
 rw [← hW31]
 generalize w7.heap.size = R31 at *
 clear hW31 hS31
 refine (qzero_at _).mono ?_
 rintro e w8 ⟨v2, rfl, hs, b8⟩
 replace ht := ht.below b8
 replace MR := MR.below b8
 replace AR := AR.below b8
 replace hx := hx.below b8
 replace VM := VM.below b8
 replace VX := VX.below b8
 replace BB := BB.trans (b8.mono BB.size)
 clear b8
 obtain ⟨p2, a2, n2, c2, y2, m2, d2, rfl⟩ := hs.open
 have hVM8 : w.heap.size < w8.heap.size := VM.lt
 have hVX8 : R31 < w8.heap.size := VX.lt
 obtain ⟨au_, cu_, hau, hcu, hcu2⟩ := AR.open
 cases hau
 have ht8 : Hid (Tab w8) := ht
 have MR8 : Hid (MRow w8 (.slice am kk cm) kk NN T 4) := MR
 have AR8 : Hid (ARow w8 (.slice au ll cu) ll NQ R 4) := AR
 have hx8 : Hid (MX w8 (.agg #[.bool p1, .slice a1 n1 c1, .slice y1 m1 d1]) e1 (sumq (fun i => sumq (leafV T NN (R i)) kk) ll / ((ll : Int) : Rat))) := hx
 have VM8 : Hid (V2 w8 w.heap.size (.int .i64 F) (.slice am kk cm)) := VM
 have VX8 : Hid (V3 w8 R31 (.bool p1) (.slice a1 n1 c1) (.slice y1 m1 d1)) := VX
 have BB8 : Hid (Below w.heap.size w w8) := BB
 obtain ⟨W9, hW9, hS9, hL9, VS⟩ := V3.lay w8 44 (.bool p2) (.slice a2 n2 c2) (.slice y2 m2 d2)
 replace hs := hs.below hL9
 obtain ⟨s1, s2, s3, s4, s5, s6⟩ := id VS
 rw [hW9] at s1 s2 s3 s4 s5 s6
 have fl : IntKind.i64.wrap ((ll : Int) - 1) = (ll : Int) - 1 := by rw [IntKind.wrap_i64]; omega
 go_wp2
 rw [← hW9]
 clear s1 s2 s3 s4 s5 s6 hW9 hS9
 clear ht MR AR hx VM VX BB
 have hs : RepQ W9 (.agg #[.bool p2, .slice a2 n2 c2, .slice y2 m2 d2]) (st (fun i => whyI F kk NN T (NQ i)) (fun i => sumq (leafV T NN (R i)) kk) ll 0) := hs
 go_loopw [8, 9] (fun vw vi wr => ∃ (j : Nat) (x8 : Int) (p5 : Bool) (a5 : Option Addr) (n5 c5 : Nat) (y5 : Option Addr) (m5 d5 : Nat), j ≤ ll ∧ vi = .int .i64 ((j : Int) - 1) ∧ vw = .int .i64 x8 ∧ Hid (x8 = fe (fun i => whyI F kk NN T (NQ i)) j (ll - j)) ∧ V3 wr w8.heap.size (.bool p5) (.slice a5 n5 c5) (.slice y5 m5 d5) ∧ RepQ wr (.agg #[.bool p5, .slice a5 n5 c5, .slice y5 m5 d5]) (st (fun i => whyI F kk NN T (NQ i)) (fun i => sumq (leafV T NN (R i)) kk) j (ll - j)) ∧ Below w8.heap.size w8 wr) (fun _ vi _ => (intOf vi + 1).toNat)
 case atStart => exact ⟨ll, 0, _, _, _, _, _, _, _, Nat.le_refl _, rfl, rfl, by rw [Nat.sub_self]; rfl, VS, by rw [Nat.sub_self]; exact hs, hL9⟩
 case round =>
  clear VS hs hL9 fl
  obtain ⟨j, x8, p5, a5, n5, c5, y5, m5, d5, hj, rfl, rfl, HX8, VS, hs, BB⟩ := hrel
  by_cases hlt : 0 < j
  ·obtain ⟨i, hij⟩ : ∃ i, j = i + 1 := ⟨j - 1, by omega⟩
   subst hij
   have hi : i < ll := by omega
   have g9 : (((i + 1 : Nat) : Int) - 1) = (i : Int) := by omega
   rw [g9]
   have g0 : (0 : Int) ≤ (i : Int) := by omega
   have g0b : (i : Int) ≥ 0 := by omega
   have g1 : (i : Int) < (ll : Int) := by omega
   have wi : IntKind.i64.wrap ((i : Int) - 1) = (i : Int) - 1 := by rw [IntKind.wrap_i64]; omega
   have hd9 : ll - i = (ll - (i + 1)) + 1 := by omega
   have HFE : Hid (fe (fun i => whyI F kk NN T (NQ i)) i (ll - i) = if whyI F kk NN T (NQ i) = 0 then fe (fun i => whyI F kk NN T (NQ i)) (i + 1) (ll - (i + 1)) else whyI F kk NN T (NQ i)) := by
    show fe _ _ _ = _
    rw [hd9]
    rfl
   have HST : Hid (st (fun i => whyI F kk NN T (NQ i)) (fun i => sumq (leafV T NN (R i)) kk) i (ll - i) = if whyI F kk NN T (NQ i) = 0 then st (fun i => whyI F kk NN T (NQ i)) (fun i => sumq (leafV T NN (R i)) kk) (i + 1) (ll - (i + 1)) + sumq (leafV T NN (R i)) kk else st (fun i => whyI F kk NN T (NQ i)) (fun i => sumq (leafV T NN (R i)) kk) (i + 1) (ll - (i + 1))) := by
    show st _ _ _ _ = _
    rw [hd9]
    rfl
   clear hd9 g9
   have MR := MR8.out.below BB
   have ht := ht8.out.below BB
   have VM := VM8.out.below BB
   obtain ⟨b, off, cc, a, d, hvv, hcc, XC0, TR0⟩ := AR8.out.at hi
   have hbw : b < w8.heap.size := World.block_lt_of_cell? _ _ XC0
   cases hvv
   have TC := Cel10.from (B := 0) XC0 BB
   have CR := TR0.below BB
   clear XC0 TR0
   go_wp2
   have hDr : Below wr.heap.size wr wr.drew := (Below.refl _ _).drew
   replace MR := MR.below hDr
   replace CR := CR.below hDr
   replace ht := ht.below hDr
   replace hs := hs.below hDr
   replace VM := VM.below hDr
   replace VS := VS.below hDr
   replace TC := TC.below hDr
   replace BB := BB.trans (hDr.mono BB.size)
   clear hDr
   refine wp_region_held_drew (S := (fun w' => w'.cell? ⟨w.heap.size, 0, none⟩ = some (.int .i64 F) ∧ w'.cell? ⟨w.heap.size, 1, none⟩ = some (.slice am kk cm) ∧ w'.cell? ⟨b, off + i, none⟩ = some (.slice a (NQ i) d))) (by kernel_rfl) ?_ (fun hHeld => ?_)
   ·exact ⟨VM.1, VM.2.1, TC.cell⟩
   generalize wr.drew = W37 at *
   refine wpAnyH_take (i := 0) (v := ?_) (by simp only [xL1, xL2, xL3]; rfl) (by kernel_rfl) (by kernel_rfl) (by kernel_rfl) (by exact fun _ _ _ h => h) (Or.inl ⟨by rfl, ?_⟩) (by assumption) ?_
   rotate_left
   ·(intro w hSw; (try dsimp only at hSw); go_simp; (try with_reducible rfl))
   (try simp only [Act.put, xL4, xL5, xL6])
   refine wpAnyH_take (i := 1) (v := ?_) (by simp only [xL1, xL2, xL3]; rfl) (by kernel_rfl) (by kernel_rfl) (by kernel_rfl) (by exact fun _ _ _ h => h) (Or.inl ⟨by rfl, ?_⟩) (by assumption) ?_
   rotate_left
   ·(intro w hSw; (try dsimp only at hSw); go_simp; (try with_reducible rfl))
   (try simp only [Act.put, xL4, xL5, xL6])
   refine wpAnyH_take (i := 2) (v := ?_) (by simp only [xL1, xL2, xL3]; rfl) (by kernel_rfl) (by kernel_rfl) (by kernel_rfl) (by exact fun _ _ _ h => h) (Or.inl ⟨by rfl, ?_⟩) (by assumption) ?_
   rotate_left
   ·(intro w hSw; (try dsimp only at hSw); go_simp; (try with_reducible rfl))
   (try simp only [Act.put, xL4, xL5, xL6])
   refine wpAnyH_take (i := 3) (v := ?_) (by simp only [xL1, xL2, xL3]; rfl) (by kernel_rfl) (by kernel_rfl) (by kernel_rfl) (by exact fun _ _ _ h => h) (Or.inl ⟨by rfl, ?_⟩) (by assumption) ?_
   rotate_left
   ·(intro w hSw; (try dsimp only at hSw); go_simp; (try with_reducible rfl))
   (try simp only [Act.put, xL4, xL5, xL6])
   refine wpAnyH_take (i := 4) (v := ?_) (by simp only [xL1, xL2, xL3]; rfl) (by kernel_rfl) (by kernel_rfl) (by kernel_rfl) (by exact fun _ _ _ h => h) (Or.inl ⟨by rfl, ?_⟩) (by assumption) ?_
   rotate_left
   ·(intro w hSw; (try dsimp only at hSw); go_simp; (try with_reducible rfl))
   (try simp only [Act.put, xL4, xL5, xL6])
   refine wpAnyH_ready (rs := [5]) (by kernel_rfl) (by simp) ?_
   refine AllReadyH.cons (by simp only [xL1, xL2, xL3]; rfl) (fun K hK => ?_) AllReadyH.nil
   go_simp
   refine (lwhy_at F _ _ kk (NQ i) NN T (R i) 4 _ MR CR ht (by omega) (by omega)).mono ?_
   rintro e w10 ⟨rfl, b10⟩
   obtain ⟨e7, he7⟩ : ∃ e7, whyI F kk NN T (NQ i) = e7 := ⟨_, rfl⟩
   have HE7 : Hid (whyI F kk NN T (NQ i) = e7) := he7
   rw [he7] at HFE HST
   rw [he7]
   clear he7
   go_wp2_with fail
   replace MR := MR.below b10
   replace CR := CR.below b10
   replace ht := ht.below b10
   replace hs := hs.below b10
   replace VM := VM.below b10
   replace VS := VS.below b10
   replace TC := TC.below b10
   replace BB := BB.trans (b10.mono BB.size)
   clear b10
   refine hK.out _ _ ?_ (fun hH1 => ?_)
   ·exact ⟨VM.1, VM.2.1, TC.cell⟩
   clear hK K hHeld
   (try simp only [Act.put, xL4, xL5, xL6])
   refine wpAnyH_take (i := 6) (v := ?_) (by simp only [xL1, xL2, xL3]; rfl) (by kernel_rfl) (by kernel_rfl) (by kernel_rfl) (by exact fun _ _ _ h => h) (Or.inl ⟨by rfl, ?_⟩) (by assumption) ?_
   rotate_left
   ·(intro w hSw; (try dsimp only at hSw); go_simp; (try with_reducible rfl))
   (try simp only [Act.put, xL4, xL5, xL6])
   refine wpAnyH_done (by kernel_rfl) ?_ _
   clear hH1
   by_cases h7 : e7 = 0
   ·subst h7
    rw [if_pos rfl] at HFE HST
    obtain ⟨hB7, hF7⟩ := whyI_zero HE7.out
    have HMI : Hid (∀ i_, i_ < kk → MayT ((NQ i : Nat) : Int) (T i_) (NN i_)) := by
     show ∀ i_, i_ < kk → MayT ((NQ i : Nat) : Int) (T i_) (NN i_)
     rw [hF7]
     exact (mayB_may hB7).2.2.2
    clear hB7 hF7 HE7
    have HZ1 : Hid (qsz (sumq (leafV T NN (R i)) kk) ≤ 31) := by
     have h1 := qsz_sumq (leafV T NN (R i)) 4 kk (leafV_sz MR (by omega) HMI.out (R i))
     show qsz _ ≤ 31
     omega
    have HZ2 : Hid (qsz (st (fun i => whyI F kk NN T (NQ i)) (fun i => sumq (leafV T NN (R i)) kk) (i + 1) (ll - (i + 1))) ≤ 257) := by
     have h1 := st_sz (E := (fun i => whyI F kk NN T (NQ i))) (P := (fun i => sumq (leafV T NN (R i)) kk)) (S := 31) (ll - (i + 1)) (i + 1) (fun j_ h1 h2 h3 => by
      obtain ⟨hB, hF⟩ := whyI_zero h3
      have hm : ∀ i_, i_ < kk → MayT F (T i_) (NN i_) := (mayB_may hB).2.2.2
      have h1 := qsz_sumq (leafV T NN (R j_)) 4 kk (leafV_sz MR (by omega) hm (R j_))
      show qsz _ ≤ 31
      omega)
     show qsz _ ≤ 257
     omega
    go_wp2
    have hDr : Below w10.heap.size w10 w10.drew := (Below.refl _ _).drew
    replace MR := MR.below hDr
    replace CR := CR.below hDr
    replace ht := ht.below hDr
    replace hs := hs.below hDr
    replace VM := VM.below hDr
    replace VS := VS.below hDr
    replace TC := TC.below hDr
    replace BB := BB.trans (hDr.mono BB.size)
    clear hDr
    refine wp_region_held_drew (S := (fun w' => w'.cell? ⟨w.heap.size, 0, none⟩ = some (.int .i64 F) ∧ w'.cell? ⟨w.heap.size, 1, none⟩ = some (.slice am kk cm) ∧ w'.cell? ⟨b, off + i, none⟩ = some (.slice a (NQ i) d))) (by kernel_rfl) ?_ (fun hHeld => ?_)
    ·exact ⟨VM.1, VM.2.1, TC.cell⟩
    generalize w10.drew = W38 at *
    refine wpAnyH_take (i := 1) (v := ?_) (by simp only [xL1, xL2, xL3]; rfl) (by kernel_rfl) (by kernel_rfl) (by kernel_rfl) (by exact fun _ _ _ h => h) (Or.inl ⟨by rfl, ?_⟩) (by assumption) ?_
    rotate_left
    ·(intro w hSw; (try dsimp only at hSw); go_simp; (try with_reducible rfl))
    (try simp only [Act.put, xL4, xL5, xL6])
    refine wpAnyH_take (i := 2) (v := ?_) (by simp only [xL1, xL2, xL3]; rfl) (by kernel_rfl) (by kernel_rfl) (by kernel_rfl) (by exact fun _ _ _ h => h) (Or.inl ⟨by rfl, ?_⟩) (by assumption) ?_
    rotate_left
    ·(intro w hSw; (try dsimp only at hSw); go_simp; (try with_reducible rfl))
    (try simp only [Act.put, xL4, xL5, xL6])
    refine wpAnyH_take (i := 3) (v := ?_) (by simp only [xL1, xL2, xL3]; rfl) (by kernel_rfl) (by kernel_rfl) (by kernel_rfl) (by exact fun _ _ _ h => h) (Or.inl ⟨by rfl, ?_⟩) (by assumption) ?_
    rotate_left
    ·(intro w hSw; (try dsimp only at hSw); go_simp; (try with_reducible rfl))
    (try simp only [Act.put, xL4, xL5, xL6])
    refine wpAnyH_take (i := 4) (v := ?_) (by simp only [xL1, xL2, xL3]; rfl) (by kernel_rfl) (by kernel_rfl) (by kernel_rfl) (by exact fun _ _ _ h => h) (Or.inl ⟨by rfl, ?_⟩) (by assumption) ?_
    rotate_left
    ·(intro w hSw; (try dsimp only at hSw); go_simp; (try with_reducible rfl))
    (try simp only [Act.put, xL4, xL5, xL6])
    refine wpAnyH_take (i := 5) (v := ?_) (by simp only [xL1, xL2, xL3]; rfl) (by kernel_rfl) (by kernel_rfl) (by kernel_rfl) (by exact fun _ _ _ h => h) (Or.inl ⟨by rfl, ?_⟩) (by assumption) ?_
    rotate_left
    ·(intro w hSw; (try dsimp only at hSw); go_simp; (try with_reducible rfl))
    (try simp only [Act.put, xL4, xL5, xL6])
    refine wpAnyH_ready (rs := [0, 6]) (by kernel_rfl) (by simp) ?_
    refine AllReadyH.cons (by simp only [xL1, xL2, xL3]; rfl) (fun K hK => ?_) ?_
    ·
     obtain ⟨VS_0, VS_1, VS_2, VS_3, VS_4, VS_5⟩ := id VS
     go_simp
     clear VS_0 VS_1 VS_2 VS_3 VS_4 VS_5
     refine hK.out _ _ ?_ (fun hH1 => ?_)
     ·exact ⟨VM.1, VM.2.1, TC.cell⟩
     clear hK K hHeld
     (try simp only [Act.put, xL4, xL5, xL6])
     refine wpAnyH_ready (rs := [6]) (by kernel_rfl) (by simp) ?_
     refine AllReadyH.cons (by simp only [xL1, xL2, xL3]; rfl) (fun K hK => ?_) AllReadyH.nil
     go_simp
     refine (lpredict_at F _ _ kk (NQ i) NN T (R i) 4 _ MR CR ht (by omega) (by omega) (by omega) HMI.out (by omega)).mono ?_
     rintro e w11 ⟨v3, rfl, h3, b11⟩
     obtain ⟨p3, a3, n3, c3, y3, m3, d3, rfl⟩ := h3.open
     go_wp2_with fail
     replace MR := MR.below b11
     replace CR := CR.below b11
     replace ht := ht.below b11
     replace hs := hs.below b11
     replace VM := VM.below b11
     replace VS := VS.below b11
     replace TC := TC.below b11
     replace BB := BB.trans (b11.mono BB.size)
     clear b11
     refine hK.out _ _ ?_ (fun hH2 => ?_)
     ·exact ⟨VM.1, VM.2.1, TC.cell⟩
     clear hK K hH1
     (try simp only [Act.put, xL4, xL5, xL6])
     refine wpAnyH_ready (rs := [7]) (by kernel_rfl) (by simp) ?_
     refine AllReadyH.cons (by simp only [xL1, xL2, xL3]; rfl) (fun K hK => ?_) AllReadyH.nil
     go_simp
     refine (qadd_at _ _ (st (fun i => whyI F kk NN T (NQ i)) (fun i => sumq (leafV T NN (R i)) kk) (i + 1) (ll - (i + 1))) _ 300 _ (hs.at _ (Nat.le_trans HZ2.out (by omega))) (h3.at _ (Nat.le_trans HZ1.out (by omega))) (by omega) (by omega) ht).mono ?_
     rintro e w12 ⟨v4, rfl, h9, b12⟩
     rw [← HST.out] at h9
     obtain ⟨p6, a6, n6, c6, y6, m6, d6, rfl⟩ := h9.open
     go_wp2_with fail
     replace ht := ht.below b12
     replace hs := hs.below b12
     replace h3 := h3.below b12
     replace VM := VM.below b12
     replace VS := VS.below b12
     replace TC := TC.below b12
     replace BB := BB.trans (b12.mono BB.size)
     clear b12
     refine hK.out _ _ ?_ (fun hH3 => ?_)
     ·exact ⟨VM.1, VM.2.1, TC.cell⟩
     clear hK K hH2
     (try simp only [Act.put, xL4, xL5, xL6])
     refine wpAnyH_ready (rs := [8]) (by kernel_rfl) (by simp) ?_
     refine AllReadyH.cons (by simp only [xL1, xL2, xL3]; rfl) (fun K hK => ?_) AllReadyH.nil
     have hKp := VS.keepJ (.bool p6) (.slice a6 n6 c6) (.slice y6 m6 d6)
     have VM_n := VM.other3 (R := w8.heap.size) (by omega) (.bool p6) (.slice a6 n6 c6) (.slice y6 m6 d6)
     have TC_n := TC.other3 (R := w8.heap.size) (by omega) (.bool p6) (.slice a6 n6 c6) (.slice y6 m6 d6)
     have VS_n := VS.same (.bool p6) (.slice a6 n6 c6) (.slice y6 m6 d6)
     have ht_n := ht.keep hKp
     have hs_n := hs.keep hKp
     have h3_n := h3.keep hKp
     have h9_n := h9.keep hKp
     have BB_n := below_store3 (R := w8.heap.size) BB (by omega) (.bool p6) (.slice a6 n6 c6) (.slice y6 m6 d6)
     clear hKp
     obtain ⟨VS_0, VS_1, VS_2, VS_3, VS_4, VS_5⟩ := id VS
     go_simp
     clear VS_0 VS_1 VS_2 VS_3 VS_4 VS_5
     clear BB ht hs h3 h9 VM VS TC
     generalize ((w12.setCell ⟨w8.heap.size, 0, none⟩ (.bool p6)).setCell ⟨w8.heap.size, 1, none⟩ (.slice a6 n6 c6)).setCell ⟨w8.heap.size, 2, none⟩ (.slice y6 m6 d6) = W39 at *
     have BB := BB_n
     have ht := ht_n
     have hs := hs_n
     have h3 := h3_n
     have h9 := h9_n
     have VM := VM_n
     have VS := VS_n
     have TC := TC_n
     clear BB_n ht_n hs_n h3_n h9_n VM_n VS_n TC_n
     refine hK.out _ _ ?_ (fun hH4 => ?_)
     ·exact ⟨VM.1, VM.2.1, TC.cell⟩
     clear hK K hH3
     (try simp only [Act.put, xL4, xL5, xL6])
     refine wpAnyH_done (by kernel_rfl) ?_ _
     clear hH4
     go_wp2
     go_roundw
     case rel => exact ⟨i, x8, _, _, _, _, _, _, _, by omega, by go_num, rfl, by rw [HFE.out]; exact HX8.out, VS, h9, BB⟩
     case measure => (simp [intOf] <;> omega)
    refine AllReadyH.cons (by simp only [xL1, xL2, xL3]; rfl) (fun K hK => ?_) ?_
    ·
     go_simp
     refine (lpredict_at F _ _ kk (NQ i) NN T (R i) 4 _ MR CR ht (by omega) (by omega) (by omega) HMI.out (by omega)).mono ?_
     rintro e w13 ⟨v3, rfl, h3, b13⟩
     obtain ⟨p3, a3, n3, c3, y3, m3, d3, rfl⟩ := h3.open
     go_wp2_with fail
     replace MR := MR.below b13
     replace CR := CR.below b13
     replace ht := ht.below b13
     replace hs := hs.below b13
     replace VM := VM.below b13
     replace VS := VS.below b13
     replace TC := TC.below b13
     replace BB := BB.trans (b13.mono BB.size)
     clear b13
     refine hK.out _ _ ?_ (fun hH1 => ?_)
     ·exact ⟨VM.1, VM.2.1, TC.cell⟩
     clear hK K hHeld
     (try simp only [Act.put, xL4, xL5, xL6])
     refine wpAnyH_ready (rs := [0]) (by kernel_rfl) (by simp) ?_
     refine AllReadyH.cons (by simp only [xL1, xL2, xL3]; rfl) (fun K hK => ?_) AllReadyH.nil
     obtain ⟨VS_0, VS_1, VS_2, VS_3, VS_4, VS_5⟩ := id VS
     go_simp
     clear VS_0 VS_1 VS_2 VS_3 VS_4 VS_5
     refine hK.out _ _ ?_ (fun hH2 => ?_)
     ·exact ⟨VM.1, VM.2.1, TC.cell⟩
     clear hK K hH1
     (try simp only [Act.put, xL4, xL5, xL6])
     refine wpAnyH_ready (rs := [7]) (by kernel_rfl) (by simp) ?_
     refine AllReadyH.cons (by simp only [xL1, xL2, xL3]; rfl) (fun K hK => ?_) AllReadyH.nil
     go_simp
     refine (qadd_at _ _ (st (fun i => whyI F kk NN T (NQ i)) (fun i => sumq (leafV T NN (R i)) kk) (i + 1) (ll - (i + 1))) _ 300 _ (hs.at _ (Nat.le_trans HZ2.out (by omega))) (h3.at _ (Nat.le_trans HZ1.out (by omega))) (by omega) (by omega) ht).mono ?_
     rintro e w14 ⟨v4, rfl, h9, b14⟩
     rw [← HST.out] at h9
     obtain ⟨p6, a6, n6, c6, y6, m6, d6, rfl⟩ := h9.open
     go_wp2_with fail
     replace ht := ht.below b14
     replace hs := hs.below b14
     replace h3 := h3.below b14
     replace VM := VM.below b14
     replace VS := VS.below b14
     replace TC := TC.below b14
     replace BB := BB.trans (b14.mono BB.size)
     clear b14
     refine hK.out _ _ ?_ (fun hH3 => ?_)
     ·exact ⟨VM.1, VM.2.1, TC.cell⟩
     clear hK K hH2
     (try simp only [Act.put, xL4, xL5, xL6])
     refine wpAnyH_ready (rs := [8]) (by kernel_rfl) (by simp) ?_
     refine AllReadyH.cons (by simp only [xL1, xL2, xL3]; rfl) (fun K hK => ?_) AllReadyH.nil
     have hKp := VS.keepJ (.bool p6) (.slice a6 n6 c6) (.slice y6 m6 d6)
     have VM_n := VM.other3 (R := w8.heap.size) (by omega) (.bool p6) (.slice a6 n6 c6) (.slice y6 m6 d6)
     have TC_n := TC.other3 (R := w8.heap.size) (by omega) (.bool p6) (.slice a6 n6 c6) (.slice y6 m6 d6)
     have VS_n := VS.same (.bool p6) (.slice a6 n6 c6) (.slice y6 m6 d6)
     have ht_n := ht.keep hKp
     have hs_n := hs.keep hKp
     have h3_n := h3.keep hKp
     have h9_n := h9.keep hKp
     have BB_n := below_store3 (R := w8.heap.size) BB (by omega) (.bool p6) (.slice a6 n6 c6) (.slice y6 m6 d6)
     clear hKp
     obtain ⟨VS_0, VS_1, VS_2, VS_3, VS_4, VS_5⟩ := id VS
     go_simp
     clear VS_0 VS_1 VS_2 VS_3 VS_4 VS_5
     clear BB ht hs h3 h9 VM VS TC
     generalize ((w14.setCell ⟨w8.heap.size, 0, none⟩ (.bool p6)).setCell ⟨w8.heap.size, 1, none⟩ (.slice a6 n6 c6)).setCell ⟨w8.heap.size, 2, none⟩ (.slice y6 m6 d6) = W40 at *
     have BB := BB_n
     have ht := ht_n
     have hs := hs_n
     have h3 := h3_n
     have h9 := h9_n
     have VM := VM_n
     have VS := VS_n
     have TC := TC_n
     clear BB_n ht_n hs_n h3_n h9_n VM_n VS_n TC_n
     refine hK.out _ _ ?_ (fun hH4 => ?_)
     ·exact ⟨VM.1, VM.2.1, TC.cell⟩
     clear hK K hH3
     (try simp only [Act.put, xL4, xL5, xL6])
     refine wpAnyH_done (by kernel_rfl) ?_ _
     clear hH4
     go_wp2
     go_roundw
     case rel => exact ⟨i, x8, _, _, _, _, _, _, _, by omega, by go_num, rfl, by rw [HFE.out]; exact HX8.out, VS, h9, BB⟩
     case measure => (simp [intOf] <;> omega)
    exact AllReadyH.nil
   ·rw [if_neg h7] at HFE HST
    have g2 : (e7 != 0) = true := by simpa using h7
    have g3 : decide (e7 = 0) = false := decide_eq_false h7
    go_wp2
    go_roundw
    case rel => exact ⟨i, e7, _, _, _, _, _, _, _, by omega, by go_num, rfl, HFE.out.symm, VS, by rw [HST.out]; exact hs, BB⟩
    case measure => (simp [intOf] <;> omega)
  ·obtain rfl : j = 0 := by omega
   have g0 : ¬ (((0 : Nat) : Int) - 1) ≥ 0 := by omega
   have g0b : decide ((((0 : Nat) : Int) - 1) ≥ 0) = false := decide_eq_false g0
   rw [Nat.sub_zero] at HX8 hs
   have ht := ht8.out.below BB
   have VM := VM8.out.below BB
   have VX := VX8.out.below BB
   have hx := hx8.out.below BB
   have MR := MR8.out.below BB
   have BB1 := BB8.out.trans (BB.mono BB8.out.size)
   clear BB
   have BB := BB1
   clear BB1
   by_cases h0 : ll = 0
   ·subst h0
    have g4 : ((0 : Nat) : Int) = 0 := rfl
    obtain ⟨mb, hmb⟩ : ∃ mb, mayB F kk NN T = mb := ⟨_, rfl⟩
    have HMB : Hid (mayB F kk NN T = mb) := hmb
    clear hmb
    obtain ⟨VM_0, VM_1, VM_2, VM_3⟩ := id VM
    go_wp2_with fail
    clear VM_0 VM_1 VM_2 VM_3
    refine (ok_may F _ kk NN T 4 _ MR ht (by omega) (by omega)).mono ?_
    rintro e w49 ⟨rfl, b49⟩
    replace ht := ht.below b49
    replace hx := hx.below b49
    replace hs := hs.below b49
    replace MR := MR.below b49
    replace VM := VM.below b49
    replace VX := VX.below b49
    replace VS := VS.below b49
    replace BB := BB.trans (b49.mono BB.size)
    clear b49
    rw [HMB.out]
    cases mb
    ·have he : e1 = 1 := by
      rw [HE.out]
      unfold wantM
      rw [if_pos rfl, HMB.out]
      rfl
     subst he
     rcases hx with ⟨h9, _⟩ | ⟨_, h9⟩
     ·omega
     cases h9
     obtain ⟨VX_0, VX_1, VX_2, VX_3, VX_4, VX_5⟩ := id VX
     go_wp2_with fail
     clear VX_0 VX_1 VX_2 VX_3 VX_4 VX_5
     refine (awake10_at _ ht).mono ?_
     rintro e w50 ⟨rfl, b50⟩
     replace ht := ht.below b50
     replace VM := VM.below b50
     replace VX := VX.below b50
     replace VS := VS.below b50
     replace BB := BB.trans (b50.mono BB.size)
     clear b50
     go_wp2
     go_ret
     exact ⟨rfl, BB⟩
    ·have he : e1 = 15 := by
      rw [HE.out]
      unfold wantM
      rw [if_pos rfl, HMB.out]
      rfl
     subst he
     rcases hx with ⟨h9, _⟩ | ⟨_, h9⟩
     ·omega
     cases h9
     obtain ⟨VX_0, VX_1, VX_2, VX_3, VX_4, VX_5⟩ := id VX
     go_wp2_with fail
     clear VX_0 VX_1 VX_2 VX_3 VX_4 VX_5
     refine (awake10_at _ ht).mono ?_
     rintro e w50 ⟨rfl, b50⟩
     replace ht := ht.below b50
     replace VM := VM.below b50
     replace VX := VX.below b50
     replace VS := VS.below b50
     replace BB := BB.trans (b50.mono BB.size)
     clear b50
     go_wp2
     go_ret
     exact ⟨rfl, BB⟩
   ·have g4 : ¬ (ll : Int) = 0 := by omega
    have g5 : decide ((ll : Int) = 0) = false := decide_eq_false g4
    have g6 : ((ll : Int) == 0) = false := by simpa using h0
    have he : x8 = e1 := by
     rw [HX8.out, HE.out, wantM_some h0]
    subst he
    by_cases h8 : x8 = 0
    ·subst h8
     rcases hx with ⟨_, hx⟩ | ⟨h9, _⟩
     rotate_left
     ·exact absurd rfl h9
     obtain ⟨hl1, hall⟩ := wantM_all HE.out.symm
     have HQ : Hid (sumq (fun i => sumq (leafV T NN (R i)) kk) ll / ((ll : Int) : Rat) * ((ll : Int) : Rat) = sumq (fun i => sumq (leafV T NN (R i)) kk) ll) := by
      show _ / _ * _ = _
      refine Rat.div_mul_cancel ?_
      intro h
      have : ((ll : Int) : Rat) = ((0 : Int) : Rat) := h
      have := Rat.intCast_inj.1 this
      omega
     have hs : RepQ wr (.agg #[.bool p5, .slice a5 n5 c5, .slice y5 m5 d5]) (sumq (fun i => sumq (leafV T NN (R i)) kk) ll) := by
      have h1 := st_sum (E := (fun i => whyI F kk NN T (NQ i))) (P := (fun i => sumq (leafV T NN (R i)) kk)) ll 0 hall
      rw [h1] at hs
      simpa using hs
     have HSP : Hid (qsz (sumq (fun i => sumq (leafV T NN (R i)) kk) ll) ≤ 257) := by
      have hz := whyI_zero (hall 0 (by omega) (by omega))
      have hm : ∀ i_, i_ < kk → MayT F (T i_) (NN i_) := (mayB_may hz.1).2.2.2
      have h1 := qsz_sumq (fun i => sumq (leafV T NN (R i)) kk) 31 ll (fun i hi => by
       have h1 := qsz_sumq (leafV T NN (R i)) 4 kk (leafV_sz MR (by omega) hm (R i))
       show qsz _ ≤ 31
       omega)
      show qsz _ ≤ 257
      omega
     have HLZ : Hid (qsz ((ll : Int) : Rat) ≤ 2) := Nat.le_trans (qsz_small _ (by rw [Rat.num_intCast]; omega) (by rw [Rat.den_intCast]; omega)) (by omega)
     have HDZ : Hid (qsz (sumq (fun i => sumq (leafV T NN (R i)) kk) ll / ((ll : Int) : Rat)) ≤ 300) := Nat.le_trans (qsz_div _ _ HSP.out HLZ.out) (by omega)
     clear hall MR
     go_wp2
     have hDr : Below wr.heap.size wr wr.drew := (Below.refl _ _).drew
     replace ht := ht.below hDr
     replace hx := hx.below hDr
     replace hs := hs.below hDr
     replace VM := VM.below hDr
     replace VX := VX.below hDr
     replace VS := VS.below hDr
     replace BB := BB.trans (hDr.mono BB.size)
     clear hDr
     refine wp_region_held_drew (S := (fun w' => w'.cell? ⟨R31, 0, none⟩ = some (.bool p1) ∧ w'.cell? ⟨R31, 1, none⟩ = some (.slice a1 n1 c1) ∧ w'.cell? ⟨R31, 2, none⟩ = some (.slice y1 m1 d1) ∧ w'.cell? ⟨w8.heap.size, 0, none⟩ = some (.bool p5) ∧ w'.cell? ⟨w8.heap.size, 1, none⟩ = some (.slice a5 n5 c5) ∧ w'.cell? ⟨w8.heap.size, 2, none⟩ = some (.slice y5 m5 d5))) (by kernel_rfl) ?_ (fun hHeld => ?_)
     ·exact ⟨VX.1, VX.2.1, VX.2.2.1, VS.1, VS.2.1, VS.2.2.1⟩
     generalize wr.drew = W72 at *
     refine wpAnyH_take (i := 0) (v := ?_) (by simp only [xL1, xL2, xL3]; rfl) (by kernel_rfl) (by kernel_rfl) (by kernel_rfl) (by exact fun _ _ _ h => h) (Or.inl ⟨by rfl, ?_⟩) (by assumption) ?_
     rotate_left
     ·(intro w hSw; (try dsimp only at hSw); go_simp; (try with_reducible rfl))
     (try simp only [Act.put, xL4, xL5, xL6])
     refine wpAnyH_take (i := 1) (v := ?_) (by simp only [xL1, xL2, xL3]; rfl) (by kernel_rfl) (by kernel_rfl) (by kernel_rfl) (by exact fun _ _ _ h => h) (Or.inl ⟨by rfl, ?_⟩) (by assumption) ?_
     rotate_left
     ·(intro w hSw; (try dsimp only at hSw); go_simp; (try with_reducible rfl))
     (try simp only [Act.put, xL4, xL5, xL6])
     refine wpAnyH_take (i := 2) (v := ?_) (by simp only [xL1, xL2, xL3]; rfl) (by kernel_rfl) (by kernel_rfl) (by kernel_rfl) (by exact fun _ _ _ h => h) (Or.inl ⟨by rfl, ?_⟩) (by assumption) ?_
     rotate_left
     ·(intro w hSw; (try dsimp only at hSw); go_simp; (try with_reducible rfl))
     (try simp only [Act.put, xL4, xL5, xL6])
     refine wpAnyH_take (i := 3) (v := ?_) (by simp only [xL1, xL2, xL3]; rfl) (by kernel_rfl) (by kernel_rfl) (by kernel_rfl) (by exact fun _ _ _ h => h) (Or.inl ⟨by rfl, ?_⟩) (by assumption) ?_
     rotate_left
     ·(intro w hSw; (try dsimp only at hSw); go_simp; (try with_reducible rfl))
     (try simp only [Act.put, xL4, xL5, xL6])
     refine wpAnyH_take (i := 4) (v := ?_) (by simp only [xL1, xL2, xL3]; rfl) (by kernel_rfl) (by kernel_rfl) (by kernel_rfl) (by exact fun _ _ _ h => h) (Or.inl ⟨by rfl, ?_⟩) (by assumption) ?_
     rotate_left
     ·(intro w hSw; (try dsimp only at hSw); go_simp; (try with_reducible rfl))
     (try simp only [Act.put, xL4, xL5, xL6])
     refine wpAnyH_take (i := 5) (v := ?_) (by simp only [xL1, xL2, xL3]; rfl) (by kernel_rfl) (by kernel_rfl) (by kernel_rfl) (by exact fun _ _ _ h => h) (Or.inl ⟨by rfl, ?_⟩) (by assumption) ?_
     rotate_left
     ·(intro w hSw; (try dsimp only at hSw); go_simp; (try with_reducible rfl))
     (try simp only [Act.put, xL4, xL5, xL6])
     refine wpAnyH_take (i := 8) (v := ?_) (by simp only [xL1, xL2, xL3]; rfl) (by kernel_rfl) (by kernel_rfl) (by kernel_rfl) (by exact fun _ _ _ h => h) (Or.inl ⟨by rfl, ?_⟩) (by assumption) ?_
     rotate_left
     ·(intro w hSw; (try dsimp only at hSw); go_simp; (try with_reducible rfl))
     (try simp only [Act.put, xL4, xL5, xL6])
     refine wpAnyH_ready (rs := [6]) (by kernel_rfl) (by simp) ?_
     refine AllReadyH.cons (by simp only [xL1, xL2, xL3]; rfl) (fun K hK => ?_) AllReadyH.nil
     go_simp
     refine (qof_at (ll : Int) _ (by omega) (by omega)).mono ?_
     rintro e w49 ⟨v6, rfl, h6, b49⟩
     obtain ⟨p6, a6, n6, c6, y6, m6, d6, rfl⟩ := h6.open
     go_wp2_with fail
     replace ht := ht.below b49
     replace hx := hx.below b49
     replace hs := hs.below b49
     replace VM := VM.below b49
     replace VX := VX.below b49
     replace VS := VS.below b49
     replace BB := BB.trans (b49.mono BB.size)
     clear b49
     refine hK.out _ _ ?_ (fun hH1 => ?_)
     ·exact ⟨VX.1, VX.2.1, VX.2.2.1, VS.1, VS.2.1, VS.2.2.1⟩
     clear hK K hHeld
     (try simp only [Act.put, xL4, xL5, xL6])
     refine wpAnyH_ready (rs := [7]) (by kernel_rfl) (by simp) ?_
     refine AllReadyH.cons (by simp only [xL1, xL2, xL3]; rfl) (fun K hK => ?_) AllReadyH.nil
     go_simp
     refine (qmul_at _ _ _ _ 300 _ (hx.at _ HDZ.out) (h6.at _ (Nat.le_trans HLZ.out (by omega))) (by omega) (by omega) ht).mono ?_
     rintro e w50 ⟨v7, rfl, h7, b50⟩
     rw [HQ.out] at h7
     obtain ⟨p7, a7, n7, c7, y7, m7, d7, rfl⟩ := h7.open
     go_wp2_with fail
     replace ht := ht.below b50
     replace hx := hx.below b50
     replace hs := hs.below b50
     replace h6 := h6.below b50
     replace VM := VM.below b50
     replace VX := VX.below b50
     replace VS := VS.below b50
     replace BB := BB.trans (b50.mono BB.size)
     clear b50
     refine hK.out _ _ ?_ (fun hH2 => ?_)
     ·exact ⟨VX.1, VX.2.1, VX.2.2.1, VS.1, VS.2.1, VS.2.2.1⟩
     clear hK K hH1
     (try simp only [Act.put, xL4, xL5, xL6])
     refine wpAnyH_ready (rs := [9]) (by kernel_rfl) (by simp) ?_
     refine AllReadyH.cons (by simp only [xL1, xL2, xL3]; rfl) (fun K hK => ?_) AllReadyH.nil
     go_simp
     refine (is10_at _ _ _ 257 257 _ h7 HSP.out (hs.at _ HSP.out) (by omega) (by omega)).mono ?_
     rintro e w51 ⟨rfl, b51⟩
     go_wp2_with fail
     replace ht := ht.below b51
     replace hx := hx.below b51
     replace hs := hs.below b51
     replace h6 := h6.below b51
     replace h7 := h7.below b51
     replace VM := VM.below b51
     replace VX := VX.below b51
     replace VS := VS.below b51
     replace BB := BB.trans (b51.mono BB.size)
     clear b51
     refine hK.out _ _ ?_ (fun hH3 => ?_)
     ·exact ⟨VX.1, VX.2.1, VX.2.2.1, VS.1, VS.2.1, VS.2.2.1⟩
     clear hK K hH2
     (try simp only [Act.put, xL4, xL5, xL6])
     refine wpAnyH_take (i := 10) (v := ?_) (by simp only [xL1, xL2, xL3]; rfl) (by kernel_rfl) (by kernel_rfl) (by kernel_rfl) (by exact fun _ _ _ h => h) (Or.inl ⟨by rfl, ?_⟩) (by assumption) ?_
     rotate_left
     ·(intro w hSw; (try dsimp only at hSw); go_simp; (try with_reducible rfl))
     (try simp only [Act.put, xL4, xL5, xL6])
     refine wpAnyH_take (i := 11) (v := ?_) (by simp only [xL1, xL2, xL3]; rfl) (by kernel_rfl) (by kernel_rfl) (by kernel_rfl) (by exact fun _ _ _ h => h) (Or.inl ⟨by rfl, ?_⟩) (by assumption) ?_
     rotate_left
     ·(intro w hSw; (try dsimp only at hSw); go_simp; (try with_reducible rfl))
     (try simp only [Act.put, xL4, xL5, xL6])
     refine wpAnyH_take (i := 12) (v := ?_) (by simp only [xL1, xL2, xL3]; rfl) (by kernel_rfl) (by kernel_rfl) (by kernel_rfl) (by exact fun _ _ _ h => h) (Or.inl ⟨by rfl, ?_⟩) (by assumption) ?_
     rotate_left
     ·(intro w hSw; (try dsimp only at hSw); go_simp; (try with_reducible rfl))
     (try simp only [Act.put, xL4, xL5, xL6])
     refine wpAnyH_ready (rs := [13]) (by kernel_rfl) (by simp) ?_
     refine AllReadyH.cons (by simp only [xL1, xL2, xL3]; rfl) (fun K hK => ?_) AllReadyH.nil
     go_simp
     refine (qright_rep _ _ _ hx (Nat.le_trans HDZ.out (by omega)) ht).mono ?_
     rintro e w52 ⟨rfl, b52⟩
     go_wp2_with fail
     replace ht := ht.below b52
     replace hx := hx.below b52
     replace hs := hs.below b52
     replace h6 := h6.below b52
     replace h7 := h7.below b52
     replace VM := VM.below b52
     replace VX := VX.below b52
     replace VS := VS.below b52
     replace BB := BB.trans (b52.mono BB.size)
     clear b52
     refine hK.out _ _ ?_ (fun hH4 => ?_)
     ·exact ⟨VX.1, VX.2.1, VX.2.2.1, VS.1, VS.2.1, VS.2.2.1⟩
     clear hK K hH3
     (try simp only [Act.put, xL4, xL5, xL6])
     refine wpAnyH_take (i := 14) (v := ?_) (by simp only [xL1, xL2, xL3]; rfl) (by kernel_rfl) (by kernel_rfl) (by kernel_rfl) (by exact fun _ _ _ h => h) (Or.inl ⟨by rfl, ?_⟩) (by assumption) ?_
     rotate_left
     ·(intro w hSw; (try dsimp only at hSw); go_simp; (try with_reducible rfl))
     (try simp only [Act.put, xL4, xL5, xL6])
     refine wpAnyH_take (i := 15) (v := ?_) (by simp only [xL1, xL2, xL3]; rfl) (by kernel_rfl) (by kernel_rfl) (by kernel_rfl) (by exact fun _ _ _ h => h) (Or.inl ⟨by rfl, ?_⟩) (by assumption) ?_
     rotate_left
     ·(intro w hSw; (try dsimp only at hSw); go_simp; (try with_reducible rfl))
     (try simp only [Act.put, xL4, xL5, xL6])
     refine wpAnyH_ready (rs := [16]) (by kernel_rfl) (by simp) ?_
     refine AllReadyH.cons (by simp only [xL1, xL2, xL3]; rfl) (fun K hK => ?_) AllReadyH.nil
     go_simp
     refine (awake10_at _ ht).mono ?_
     rintro e w53 ⟨rfl, b53⟩
     go_wp2_with fail
     replace ht := ht.below b53
     replace hx := hx.below b53
     replace hs := hs.below b53
     replace h6 := h6.below b53
     replace h7 := h7.below b53
     replace VM := VM.below b53
     replace VX := VX.below b53
     replace VS := VS.below b53
     replace BB := BB.trans (b53.mono BB.size)
     clear b53
     refine hK.out _ _ ?_ (fun hH5 => ?_)
     ·exact ⟨VX.1, VX.2.1, VX.2.2.1, VS.1, VS.2.1, VS.2.2.1⟩
     clear hK K hH4
     (try simp only [Act.put, xL4, xL5, xL6])
     refine wpAnyH_take (i := 17) (v := ?_) (by simp only [xL1, xL2, xL3]; rfl) (by kernel_rfl) (by kernel_rfl) (by kernel_rfl) (by exact fun _ _ _ h => h) (Or.inl ⟨by rfl, ?_⟩) (by assumption) ?_
     rotate_left
     ·(intro w hSw; (try dsimp only at hSw); go_simp; (try with_reducible rfl))
     (try simp only [Act.put, xL4, xL5, xL6])
     refine wpAnyH_take (i := 18) (v := ?_) (by simp only [xL1, xL2, xL3]; rfl) (by kernel_rfl) (by kernel_rfl) (by kernel_rfl) (by exact fun _ _ _ h => h) (Or.inl ⟨by rfl, ?_⟩) (by assumption) ?_
     rotate_left
     ·(intro w hSw; (try dsimp only at hSw); go_simp; (try with_reducible rfl))
     (try simp only [Act.put, xL4, xL5, xL6])
     refine wpAnyH_done (by kernel_rfl) ?_ _
     clear hH5
     go_wp2
     go_ret
     exact ⟨rfl, BB⟩
    ·have g2 : (x8 != 0) = true := by simpa using h8
     have g3 : decide (x8 = 0) = false := decide_eq_false h8
     rcases hx with ⟨h9, _⟩ | ⟨_, h9⟩
     ·exact absurd h9 h8
     cases h9
     have HX9 : Hid (¬ x8 = 0) := h8
     clear h8
     obtain ⟨VX_0, VX_1, VX_2, VX_3, VX_4, VX_5⟩ := id VX
     go_wp2_with fail
     clear VX_0 VX_1 VX_2 VX_3 VX_4 VX_5
     refine (awake10_at _ ht).mono ?_
     rintro e w49 ⟨rfl, b49⟩
     replace ht := ht.below b49
     replace VM := VM.below b49
     replace VX := VX.below b49
     replace VS := VS.below b49
     replace BB := BB.trans (b49.mono BB.size)
     clear b49
     go_wp2
     go_ret
     exact ⟨rfl, BB⟩
theorem own : ownKnob Tryz.prog.godebug = none := by kernel_rfl
theorem laidOut : laidOutB Tryz.prog = true := by kernel_rfl

abbrev laid1 : List (String × DataW Unit) := [("math/bits.deBruijn64tab", Rows.laid_math_bits_deBruijn64tab)]
theorem gTab : Tryz.prog.globalNamed "math/bits.deBruijn64tab" = some 0 := by kernel_rfl
theorem gTabType : (Tryz.prog.globals[0]?).map (·.type) = some 170 := by kernel_rfl
theorem uTab : Tryz.prog.underlying 170 = some (.array 64 5) := by kernel_rfl
theorem uCell : Tryz.prog.underlying 5 = some (.int .u8) := by kernel_rfl
theorem cCell : Tryz.prog.cellsOf 5 = 1 := by kernel_rfl
theorem cTab : Tryz.prog.cellsOf 170 = 64 := by kernel_rfl
/-- The listed table lies in its cells. -/
theorem tab_of {W : World} (h : laidMetH Tryz.prog laid1 W) : Tab W := by
 rw [MakeChecks.laidMetH_plain _ _ _ (by kernel_rfl)] at h
 have hd : laid1 = [("math/bits.deBruijn64tab", Lib.tabData .u8 (Lib.deBruijn64tab.map fun (n : Nat) => Int.ofNat n))] := rfl
 rw [hd] at h
 have hT := Lib.tabIs_of_head gTab gTabType uTab uCell cCell cTab h
 intro i hi
 have hc := hT.cell gTab i (by rw [List.length_map]; exact hi)
 rw [hc]
 congr 2
 rw [List.getD_eq_getElem?_getD, List.getElem?_map, List.getD_eq_getElem?_getD]
 cases Lib.deBruijn64tab[i]? <;> rfl
/-- A start for the witness: the heap that the run of the program's own initialisers leaves. -/
noncomputable def startW (os : Os) : World := { World.holding Tryz.prog os ⟨#[], #[], []⟩ with heap := (varsWorld Tryz.prog 400 (varsId Tryz.prog) os (fun _ _ => 0)).heap }
theorem start_met (os : Os) (args : Array Value) : laidMetH Tryz.prog laid1 ((startW os).forCall (fun _ _ => 0) ⟨#[], args, []⟩).memory :=
 laidMetH_of_parts3 (fuel := 8) (laidMet_of_run' 8 (by kernel_rfl) (by kernel_rfl)) (by kernel_rfl) (by kernel_rfl)

set_option maxRecDepth 100000 in
theorem lifted (os : Os) (started : os.Started) (H : Type) (enc : TypeId × Value → H) :
  ReturnsInHanded {} Tryz.checked os 5 .any (fun w args => (Rows.routeMeansSpec.pre enc Tryz.prog Tryz.f5 [] false w args ∧ laidMetH Tryz.prog laid1 w) ∧ sizedMet enc Tryz.prog Tryz.f5 (OpenSpec.ofChange Rows.routeMeansSpec) false w args) (Rows.routeMeansSpec.post enc Tryz.prog Tryz.f5 false true false false) := by
 refine returnsInHanded_of_change_and (C := Tryz.checked) (X := fun w _ => laidMetH Tryz.prog laid1 w) (fun _ _ _ hh h => h.of_heap hh) own started (by kernel_rfl) Tryz.func5
  (ChangeSpec.witness_shaped (enc := enc) (C := Tryz.checked) (os := os) (X := fun w _ => laidMetH Tryz.prog laid1 w) false (startW os) #[.agg #[.int .i64 0, .slice none 0 0], .slice none 0 0] 8 rfl (World.shaped_of_RefB (by kernel_rfl) (by kernel_rfl)) (by kernel_rfl) (by kernel_rfl) (by kernel_rfl) (start_met os _)) ?_
 intro W base args ds gs before hval0 hW _ _ hL _
 have hval : ∀ (j : Nat) t v, Tryz.f5.params[j]? = some t → args[j]? = some v → Value.okWide Tryz.prog W .any base t v := hval0
 have hW' := hW
 obtain ⟨p, q, hA0, hV, rfl, hfz, hnd⟩ := hW
 have hA : DataW.TrodAll enc Tryz.prog W 0 (fun _ => true) true Tryz.f5.params.toList args.toList ds p := hA0
 rw [Tryz.params5] at hA hval
 obtain ⟨v0, vs0, d0, ds0, p0, q0, hargs, rfl, rfl, h0, r0⟩ := trodAll_cons hA
 obtain ⟨v1, vs1, d1, ds1, p1, q1, rfl, rfl, rfl, h1, r1⟩ := trodAll_cons r0
 obtain ⟨rfl, rfl, rfl⟩ := trodAll_nil r1
 obtain rfl : args = #[v0, v1] := by cases args; simp_all
 obtain ⟨rfl, rfl⟩ := trodVars_none hV
 have k0 := h0
 have lt0 : ∀ x ∈ p0, x.block < W.heap.size := by obtain ⟨m, hm⟩ := k0; exact DataW.trod_lt m _ _ _ hm
 obtain ⟨F0, a0, c0, n0, N0, z0, rfl, f0, w0⟩ := open_model 4 (hval 0 27 v0 rfl rfl) h0
 have k1 := h1
 have lt1 : ∀ x ∈ p1, x.block < W.heap.size := by obtain ⟨m, hm⟩ := k1; exact DataW.trod_lt m _ _ _ hm
 obtain ⟨n1, N1, z1, w1⟩ := open_rows 3 (hval 1 54 v1 rfl rfl) h1
 clear hA0 hval0
 refine (walk _ _ _ _ _ _ _ _ _ _ W f0 w0 w1 (tab_of hL)).mono fun e W' ⟨he, bel⟩ => ?_
 subst he
 exact ⟨_, rfl, _, _, _, [], _, [], hW', trodAll_mk1 (shut_bool Tryz.underlying4 _), (trodAll_cons_mk (Below.trod laidOut (by kernel_rfl) (of_decide_eq_true (by kernel_rfl)) k0 bel lt0) (trodAll_cons_mk (Below.trod laidOut (by kernel_rfl) (of_decide_eq_true (by kernel_rfl)) k1 bel lt1) trodAll_mk0)), rfl, bel.frame _, fun h => by cases h⟩

theorem over : Rows.routeMeansRow.holds Tryz.pinned (OpenSpec.ofChange Rows.routeMeansSpec) :=
 OpenClaim.holds_of_wide 5 Tryz.f5 rfl rfl rfl rfl rfl rfl rfl ⟨rfl, rfl, rfl, rfl, rfl⟩ rfl rfl rfl rfl rfl (by kernel_rfl) Tryz.func5 (by kernel_rfl)
  (of_decide_eq_true (by kernel_rfl)) (by unfold Func.isWrapper; first | (rw [if_pos (by decide +kernel)]; kernel_rfl) | (rw [if_neg (by decide +kernel)]; exact ⟨rfl, rfl⟩))
  (fun os started H enc _ => lifted os started H enc)

end Go.Proofs.YtnnnkajomljdgaaGreatDoor.routeMeans
namespace Go.Proofs.YtnnnkajomljdgaaGreatDoor
/-- The statement: the row, tied to the text of the program. -/
theorem routeMeans_holds : Rows.RouteMeansCardSaid :=
 Claim7.holds_tied_plain_at .later [] [.data] true (true, "60721c48722a9e8b562d581eaa8eecad4e5ec86f465869b22e499f0c68cb6c50") false
  routeMeans.over (fun _ h => by cases h) (by kernel_rfl) (fun _ h => by cases h) routeMeans_row_tie rfl ⟨rfl, rfl⟩ (by kernel_rfl) rfl
  (fun f fn hf hfn => by
   obtain rfl : f = 5 := Option.some.inj ((show Tryz.prog.funcNamed "dendron/dendronlaw10.RouteMeans" = some 5 by kernel_rfl).symm.trans hf) |>.symm
   obtain rfl : fn = Tryz.f5 := (Option.some.inj (Tryz.func5.symm.trans hfn)).symm
   exact ⟨by kernel_rfl, fun j t ht => by
    rw [Tryz.params5] at ht
    have hm : t ∈ [27, 54] := by simpa using Array.mem_of_getElem? ht
    have hall : ([27, 54].all fun u => !Tryz.prog.wantsStandIn u) = true := by kernel_rfl
    exact (show Tryz.prog.wantsStandIn t = false by simpa using List.all_eq_true.1 hall t hm)⟩)
  (by kernel_rfl)
end Go.Proofs.YtnnnkajomljdgaaGreatDoor
