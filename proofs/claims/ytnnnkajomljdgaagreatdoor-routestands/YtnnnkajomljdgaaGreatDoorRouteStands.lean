/-
  Proves that what any model of up to 6 trees of up to 15 nodes predicts of any row stays, if an entry that is a number is changed for the step that stands for it, whatever comes in (the statement RouteStands, its tied card); the table of math/bits lies as the program's text lays it; no other condition.
-/
import Derived.Test.YtnnnkajomljdgaaGreatDoorJ88b258d9b9
import Derived.Test.YtnnnkajomljdgaaGreatDoorRows
import Derived.Test.YtnnnkajomljdgaaGreatDoorJ1ffa724cb6
import Derived.Test.YtnnnkajomljdgaaGreatDoorJ45044c90c7
import Derived.Test.YtnnnkajomljdgaaGreatDoorJc7911dde7a
import Derived.Test.YtnnnkajomljdgaaGreatDoorJ4ab0a246f4
import Derived.Test.YtnnnkajomljdgaaGreatDoorJ8ad85e4090
import Derived.WalkKit
import Derived.ProofKit
import Derived.OpenShut
import Derived.ShutString
import Derived.ChangeOld
import Derived.Below
import Derived.Test.YtnnnkajomljdgaaGreatDoorTie
import Derived.Test.YtnnnkajomljdgaaGreatDoorCards
import Derived.LaidByTextLater
import Derived.LaidHandle
import Derived.Lib.LaidTab
import Derived.SevenTiedAt
namespace Go.Proofs.YtnnnkajomljdgaaGreatDoor.routeStands
open Go.ChangeShapes Go.WideShapes Go.ChangeAt Go.RowKit
open Go.ChangeMaps (open_string shut_string)
set_option linter.unusedVariables false
set_option linter.unusedSimpArgs false

theorem cmpQ_le10 (a b : Rat) : decide (cmpQ a b ≤ 0) = decide (a ≤ b) := by
  unfold cmpQ
  by_cases h : a < b
  · rw [if_pos h, decide_eq_true (show (-1 : Int) ≤ 0 by omega), decide_eq_true (show a ≤ b by grind)]
  · rw [if_neg h]
    by_cases h2 : b < a
    · rw [if_pos h2, decide_eq_false (show ¬ (1 : Int) ≤ 0 by omega), decide_eq_false (show ¬ a ≤ b by grind)]
    · rw [if_neg h2, decide_eq_true (show (0 : Int) ≤ 0 by omega), decide_eq_true (show a ≤ b by grind)]
def StL (W : World) (q : Nat → Rat) (n : Nat) (v : Rat) (i : Nat) (wr : World) : Prop := ∃ (σ : Rat) (p5 : Bool) (a5 : Option Addr) (n5 c5 : Nat) (y5 : Option Addr) (m5 d5 : Nat), V3 wr W.heap.size (.bool p5) (.slice a5 n5 c5) (.slice y5 m5 d5) ∧ RepQ wr (.agg #[.bool p5, .slice a5 n5 c5, .slice y5 m5 d5]) σ ∧ Hid (StI q n v i σ) ∧ Below W.heap.size W wr
theorem owns_empty10 (w : World) (B : Nat) (e : TypeId) (size : Nat) (hB : B ≤ w.heap.size) : (w.alloc (.cells #[] e)).ownsRow B e size (.slice (some ⟨w.heap.size, 0, none⟩) 0 0) 0 [] :=
  ⟨by simp, Or.inr ⟨w.heap.size, 0, #[], rfl, hB, heap_alloc_new w _, Nat.le_refl _, by unfold maxLen; omega, by simp, by simp⟩⟩

set_option maxRecDepth 100000 in
set_option maxHeartbeats 16000000 in
theorem walk (F : Int) (ao : Option Addr) (c k : Nat) (N : Nat → Nat) (T : Nat → Nat → Nd) (v2 : Value) (nr : Nat) (r : Nat → Cl) (f : Int) (w : World) (hF : I64 F) (hv : MRaw w (.slice ao k c) k N T 4) (hr : CRaw w v2 nr r 3) (hf : (Lit.int .i64 f).wf = true) (ht : Tab w) :
    Calls Tryz.prog 7 #[.agg #[.int .i64 F, .slice ao k c], v2, .int .i64 f] w fun e w' => e = .returned (.bool true) ∧ Below w.heap.size w w' := by
  clear hf hF
  have BB : Below w.heap.size w w := Below.refl _ _
  obtain ⟨Wb0, hW0, hS0, hL0, VM⟩ := V2.lay w 27 (.int .i64 F) (.slice ao k c)
  have ht0 := ht
  replace ht := ht.below hL0
  replace BB := BB.trans (hL0.mono BB.size)
  clear hL0
  go_enter Tryz.func7, Tryz.ntmps7
  obtain ⟨VM_0, VM_1, VM_2, VM_3⟩ := id VM
  rw [hW0] at VM_0 VM_1 VM_2 VM_3
  go_wp2_with fail
  clear VM_0 VM_1 VM_2 VM_3
  rw [← hW0]
  clear hW0 hS0
  have hv1 := hv.below BB
  have hsz : Hid (w.heap.size < Wb0.heap.size) := VM.lt
  refine (few7_at F _ k N T _ hv1).mono ?_
  rintro e w1 ⟨r_, rfl, MO, b1⟩
  replace ht := ht.below b1
  replace VM := VM.below b1
  replace BB := BB.trans (b1.mono BB.size)
  clear b1
  obtain ⟨am, cm, rfl⟩ := MO.form
  clear hv1
  have hk6 : min k 6 ≤ 6 := Nat.min_le_right _ _
  generalize min k 6 = kk at *
  generalize (fun i => min (N i) 15) = NN at *
  obtain ⟨q1, q2, q3, q4⟩ := id VM
  have K1 : KeepQ IsLimb w1 (w1.setCell ⟨w.heap.size, 0, none⟩ (.int .i64 F)) := keepL_set q1 (limb_int _) _
  have K2 := keepL_set (cell_set_by (u := .int .i64 F) (j := 0) q2 (by omega)) (limb_slice _ _ _) (.slice am kk cm)
  have MO_n := (MO.set (a := ⟨w.heap.size, 0, none⟩) (by have := hsz.out; exact this) _ K1).set (a := ⟨w.heap.size, 1, none⟩) (by have := hsz.out; exact this) _ K2
  have VM_n := VM.same (.int .i64 F) (.slice am kk cm)
  have ht_n := (ht.keepL K1).keepL K2
  have BB_n := below_store2 (R := w.heap.size) BB (Nat.le_refl _) (.int .i64 F) (.slice am kk cm)
  obtain ⟨z1, z2, z3, z4⟩ := id VM_n
  go_wp2_with fail
  clear q1 q2 q3 q4 z1 z2 z3 z4 K1 K2 MO VM ht BB
  generalize (w1.setCell ⟨w.heap.size, 0, none⟩ (.int .i64 F)).setCell ⟨w.heap.size, 1, none⟩ (.slice am kk cm) = W3 at *
  have VM := VM_n
  have ht := ht_n
  have BB := BB_n
  have MR := MO_n.row
  clear VM_n ht_n BB_n MO_n ht0
  obtain ⟨ar, cr, rfl, hrc, hr63⟩ := hr.open
  have hr1 := hr.below BB
  refine (few9_at _ nr 70 r _ hr1 (by omega)).mono ?_
  rintro e w6 ⟨vu, rfl, CO, b6⟩
  replace ht := ht.below b6
  replace MR := MR.below b6
  replace VM := VM.below b6
  replace BB := BB.trans (b6.mono BB.size)
  clear b6
  obtain ⟨au, cu, rfl⟩ := CO.form
  have CR : CRow w6 _ (min nr 70) r 8 := CO.row.mono (by omega)
  clear CO hr hr1
  have hm70 : min nr 70 ≤ 70 := Nat.min_le_right _ _
  generalize min nr 70 = m at *
  obtain ⟨VM_0, VM_1, VM_2, VM_3⟩ := id VM
  go_wp2_with fail
  clear VM_0 VM_1 VM_2 VM_3
  by_cases h0 : cutW F kk NN T f = 0
  · obtain ⟨hB, hf0, hfF⟩ := cutW_zero h0
    have HW : Hid (cutW F kk NN T f = 0) := h0
    have HB : Hid (mayB F kk NN T = true) := hB
    clear hB h0
    refine (rsteps_yes F f _ kk NN T 4 _ MR ht (by omega) (by omega) HW.out).mono ?_
    rintro e w7 ⟨u1, n, q, rfl, FS, HC1, b7⟩
    replace ht := ht.below b7
    replace MR := MR.below b7
    replace CR := CR.below b7
    replace VM := VM.below b7
    replace BB := BB.trans (b7.mono BB.size)
    clear b7
    obtain ⟨a7, c7, rfl⟩ := FS.open
    have HCI : Hid (CutI T NN kk f 4 kk 0 q n) := HC1
    clear HC1
    by_cases hmF : (m : Int) = F
    · subst hmF
      obtain ⟨fn, rfl⟩ : ∃ fn : Nat, f = (fn : Int) := ⟨f.toNat, by omega⟩
      have hfm : fn < m := by omega
      have g2 : ((m : Int) != (m : Int)) = false := by simp
      have g4 : ¬ (fn : Int) < 0 := by omega
      have g4b : decide ((fn : Int) < 0) = false := decide_eq_false g4
      have g5 : ¬ (fn : Int) ≥ (m : Int) := by omega
      have g5b : decide ((fn : Int) ≥ (m : Int)) = false := decide_eq_false g5
      have g6 : (0 : Int) ≤ (fn : Int) := by omega
      have g7 : (fn : Int) < (m : Int) := by omega
      have g5c : ¬ m ≤ fn := by omega
      have g5d : decide (m ≤ fn) = false := decide_eq_false g5c
      clear hf0 hfF
      obtain ⟨b4, o4, c4_, p4, a4, n4, c4, y4, m4, d4, hv4, hcc4, hc64, X0, X1, X2, X3, rv⟩ := CR.at hfm
      cases hv4
      obtain ⟨ms, hms⟩ : ∃ ms, (r fn).miss = ms := ⟨_, rfl⟩
      have HMS : Hid ((r fn).miss = ms) := hms
      rw [hms] at X0
      clear hms
      cases ms
      · have g8 : ¬ ((n : Int) + 1) = 0 := by omega
        have g8b : decide (((n : Int) + 1) = 0) = false := decide_eq_false g8
        have g8c : (0 : Int) < (n : Int) + 1 := by omega
        have hn9 : n ≤ 100000 := by have := HCI.out.cnt; omega
        obtain ⟨b6, o6, c6, p6, a6, m6, d6, y6, k6, e6, hv6, hc6_, X6, r6⟩ := FS.at 0 (by omega)
        cases hv6
        simp only [Nat.zero_mul, Nat.add_zero] at X6
        have HST : Hid (StI q n (r fn).val 0 (stq q n 0)) := StI.start HCI.out.srt HCI.out.sz
        have HSZ : Hid (∀ i, i < n + 1 → qsz (stq q n i) ≤ 8) := stq_sz HCI.out.sz
        have QV : Quad10 w7 b4 (o4 + fn * 4) (.bool false) (.bool p4) (.slice a4 n4 c4) (.slice y4 m4 d4) := ⟨X0, X1, X2, X3⟩
        have ht8 : Hid (Tab w7) := ht
        have MR8 : Hid (MRow w7 (.slice am kk cm) kk NN T 4) := MR
        have CR8 : Hid (CRow w7 (.slice (some ⟨b4, o4, none⟩) m cu) m r 8) := CR
        have FS8 : Hid (FRow w7 (.slice (some ⟨b6, o6, none⟩) (n + 1) c7) (n + 1) (stq q n)) := FS
        have VM8 : Hid (V2 w7 w.heap.size (.int .i64 (m : Int)) (.slice am kk cm)) := VM
        have QV8 : Hid (Quad10 w7 b4 (o4 + fn * 4) (.bool false) (.bool p4) (.slice a4 n4 c4) (.slice y4 m4 d4)) := QV
        have rv8 : Hid (RatAt w7 (.agg #[.bool p4, .slice a4 n4 c4, .slice y4 m4 d4]) (r fn).val 8) := rv
        have BB8 : Hid (Below w.heap.size w w7) := BB
        have hVM8 : w.heap.size < w7.heap.size := VM.lt
        obtain ⟨W9, hW9, hS9, hL9, VS⟩ := V3.lay w7 44 (.bool p6) (.slice a6 m6 d6) (.slice y6 k6 e6)
        have hs := r6.below hL9
        obtain ⟨M_0, M_1, M_2, M_3⟩ := id VM
        obtain ⟨z_0, z_1, z_2⟩ := X6.cells10
        obtain ⟨s1, s2, s3, s4, s5, s6⟩ := id VS
        rw [hW9] at s1 s2 s3 s4 s5 s6
        go_wp2
        rw [← hW9]
        clear s1 s2 s3 s4 s5 s6 z_0 z_1 z_2 M_0 M_1 M_2 M_3 hW9 hS9 X0 X1 X2 X3 X6 r6 ht MR CR FS VM QV rv BB g2 g4 g4b g5 g5b g8 g8b
        go_loopw [10] (fun vi wr => ∃ i : Nat, i ≤ n + 1 ∧ vi = .int .i64 (i : Int) ∧ StL w7 q n (r fn).val i wr) (fun vi _ => n + 1 - (intOf vi).toNat)
        case atStart => exact ⟨0, by omega, rfl, _, _, _, _, _, _, _, _, VS, hs, HST, hL9⟩
        case round =>
          clear VS hs HST hL9
          obtain ⟨i, hi, rfl, hSL⟩ := hrel
          obtain ⟨σ, p5, a5, n5, c5, y5, m5, d5, VS, hs, HST, BB⟩ := hSL
          by_cases hlt : i < n + 1
          · have h0_ : (0 : Int) ≤ (i : Int) := by omega
            have h1_ : (i : Int) < (n : Int) + 1 := by omega
            have wi : IntKind.i64.wrap ((i : Int) + 1) = (i : Int) + 1 := by rw [IntKind.wrap_i64]; omega
            obtain ⟨b7, o7, c7_, p7, a7, m7, d7, y7, k7, e7, hv7, hc7_, X7, r7⟩ := (FS8.out.below BB).at i hlt
            cases hv7
            have QV := QV8.out.below BB
            have rv := rv8.out.below BB
            go_wp2
            have hDr : Below wr.heap.size wr wr.drew := (Below.refl _ _).drew
            replace X7 := X7.below hDr
            replace r7 := r7.below hDr
            replace QV := QV.below hDr
            replace rv := rv.below hDr
            replace hs := hs.below hDr
            replace VS := VS.below hDr
            replace BB := BB.trans (hDr.mono BB.size)
            clear hDr
            refine wp_region_held_drew (S := (fun w' => w'.cell? ⟨b6, o6 + i * 3, none⟩ = some (.bool p7) ∧ w'.cell? ⟨b6, o6 + i * 3 + 1, none⟩ = some (.slice a7 m7 d7) ∧ w'.cell? ⟨b6, o6 + i * 3 + 2, none⟩ = some (.slice y7 k7 e7) ∧ w'.cell? ⟨b4, o4 + fn * 4 + 1, none⟩ = some (.bool p4) ∧ w'.cell? ⟨b4, o4 + fn * 4 + 1 + 1, none⟩ = some (.slice a4 n4 c4) ∧ w'.cell? ⟨b4, o4 + fn * 4 + 1 + 2, none⟩ = some (.slice y4 m4 d4))) (by kernel_rfl) ?_ (fun hHeld => ?_)
            · exact ⟨X7.cells10.1, X7.cells10.2.1, X7.cells10.2.2, QV.out.2.1, QV.out.2.2.1, QV.out.2.2.2⟩
            generalize wr.drew = W34 at *
            refine wpAnyH_take (i := 0) (v := ?_) (by simp only [xL1, xL2, xL3]; rfl) (by kernel_rfl) (by kernel_rfl) (by kernel_rfl) (by exact fun _ _ _ h => h) (Or.inl ⟨by rfl, ?_⟩) (by assumption) ?_
            rotate_left
            · (intro w hSw; (try dsimp only at hSw); go_simp; (try with_reducible rfl))
            (try simp only [Act.put, xL4, xL5, xL6])
            refine wpAnyH_take (i := 1) (v := ?_) (by simp only [xL1, xL2, xL3]; rfl) (by kernel_rfl) (by kernel_rfl) (by kernel_rfl) (by exact fun _ _ _ h => h) (Or.inl ⟨by rfl, ?_⟩) (by assumption) ?_
            rotate_left
            · (intro w hSw; (try dsimp only at hSw); go_simp; (try with_reducible rfl))
            (try simp only [Act.put, xL4, xL5, xL6])
            refine wpAnyH_take (i := 2) (v := ?_) (by simp only [xL1, xL2, xL3]; rfl) (by kernel_rfl) (by kernel_rfl) (by kernel_rfl) (by exact fun _ _ _ h => h) (Or.inl ⟨by rfl, ?_⟩) (by assumption) ?_
            rotate_left
            · (intro w hSw; (try dsimp only at hSw); go_simp; (try with_reducible rfl))
            (try simp only [Act.put, xL4, xL5, xL6])
            refine wpAnyH_take (i := 3) (v := ?_) (by simp only [xL1, xL2, xL3]; rfl) (by kernel_rfl) (by kernel_rfl) (by kernel_rfl) (by exact fun _ _ _ h => h) (Or.inl ⟨by rfl, ?_⟩) (by assumption) ?_
            rotate_left
            · (intro w hSw; (try dsimp only at hSw); go_simp; (try with_reducible rfl))
            (try simp only [Act.put, xL4, xL5, xL6])
            refine wpAnyH_take (i := 4) (v := ?_) (by simp only [xL1, xL2, xL3]; rfl) (by kernel_rfl) (by kernel_rfl) (by kernel_rfl) (by exact fun _ _ _ h => h) (Or.inl ⟨by rfl, ?_⟩) (by assumption) ?_
            rotate_left
            · (intro w hSw; (try dsimp only at hSw); go_simp; (try with_reducible rfl))
            (try simp only [Act.put, xL4, xL5, xL6])
            refine wpAnyH_take (i := 5) (v := ?_) (by simp only [xL1, xL2, xL3]; rfl) (by kernel_rfl) (by kernel_rfl) (by kernel_rfl) (by exact fun _ _ _ h => h) (Or.inl ⟨by rfl, ?_⟩) (by assumption) ?_
            rotate_left
            · (intro w hSw; (try dsimp only at hSw); go_simp; (try with_reducible rfl))
            (try simp only [Act.put, xL4, xL5, xL6])
            refine wpAnyH_take (i := 6) (v := ?_) (by simp only [xL1, xL2, xL3]; rfl) (by kernel_rfl) (by kernel_rfl) (by kernel_rfl) (by exact fun _ _ _ h => h) (Or.inl ⟨by rfl, ?_⟩) (by assumption) ?_
            rotate_left
            · (intro w hSw; (try dsimp only at hSw); go_simp; (try with_reducible rfl))
            (try simp only [Act.put, xL4, xL5, xL6])
            refine wpAnyH_take (i := 7) (v := ?_) (by simp only [xL1, xL2, xL3]; rfl) (by kernel_rfl) (by kernel_rfl) (by kernel_rfl) (by exact fun _ _ _ h => h) (Or.inl ⟨by rfl, ?_⟩) (by assumption) ?_
            rotate_left
            · (intro w hSw; (try dsimp only at hSw); go_simp; (try with_reducible rfl))
            (try simp only [Act.put, xL4, xL5, xL6])
            refine wpAnyH_take (i := 8) (v := ?_) (by simp only [xL1, xL2, xL3]; rfl) (by kernel_rfl) (by kernel_rfl) (by kernel_rfl) (by exact fun _ _ _ h => h) (Or.inl ⟨by rfl, ?_⟩) (by assumption) ?_
            rotate_left
            · (intro w hSw; (try dsimp only at hSw); go_simp; (try with_reducible rfl))
            (try simp only [Act.put, xL4, xL5, xL6])
            refine wpAnyH_ready (rs := [9]) (by kernel_rfl) (by simp) ?_
            refine AllReadyH.cons (by simp only [xL1, xL2, xL3]; rfl) (fun K hK => ?_) AllReadyH.nil
            go_simp
            refine (qcmp_at _ _ (stq q n i) (r fn).val 8 _ (r7.at _ (HSZ.out i hlt)) rv (by omega) (by omega)).mono ?_
            rintro e w11 ⟨rfl, b11⟩
            have HC : Hid (decide (cmpQ (stq q n i) (r fn).val ≤ 0) = decide (stq q n i ≤ (r fn).val)) := cmpQ_le10 _ _
            obtain ⟨cq, hcq⟩ : ∃ cq, cmpQ (stq q n i) (r fn).val = cq := ⟨_, rfl⟩
            rw [hcq] at HC ⊢
            clear hcq
            go_wp2_with fail
            replace X7 := X7.below b11
            replace r7 := r7.below b11
            replace QV := QV.below b11
            replace rv := rv.below b11
            replace hs := hs.below b11
            replace VS := VS.below b11
            replace BB := BB.trans (b11.mono BB.size)
            clear b11
            refine hK.out _ _ ?_ (fun hH1 => ?_)
            · exact ⟨X7.cells10.1, X7.cells10.2.1, X7.cells10.2.2, QV.out.2.1, QV.out.2.2.1, QV.out.2.2.2⟩
            clear hK K hHeld
            (try simp only [Act.put, xL4, xL5, xL6])
            refine wpAnyH_take (i := 10) (v := ?_) (by simp only [xL1, xL2, xL3]; rfl) (by kernel_rfl) (by kernel_rfl) (by kernel_rfl) (by exact fun _ _ _ h => h) (Or.inl ⟨by rfl, ?_⟩) (by assumption) ?_
            rotate_left
            · (intro w hSw; (try dsimp only at hSw); go_simp; (try with_reducible rfl))
            (try simp only [Act.put, xL4, xL5, xL6])
            refine wpAnyH_done (by kernel_rfl) ?_ _
            clear hH1
            by_cases hc : cq ≤ 0
            · have HS2 : Hid (StI q n (r fn).val (i + 1) (stq q n i)) := HST.out.yes HCI.out.srt HCI.out.sz hlt (of_decide_eq_true (by rw [← HC.out]; exact decide_eq_true hc))
              have g9 : decide (cq ≤ 0) = true := decide_eq_true hc
              clear HC HST hs QV rv
              obtain ⟨z_0, z_1, z_2⟩ := X7.cells10
              have hKp := VS.keepJ (.bool p7) (.slice a7 m7 d7) (.slice y7 k7 e7)
              have VS_n := VS.same (.bool p7) (.slice a7 m7 d7) (.slice y7 k7 e7)
              have r_n := r7.keep hKp
              have BB_n := below_store3 (R := w7.heap.size) BB (Nat.le_refl _) (.bool p7) (.slice a7 m7 d7) (.slice y7 k7 e7)
              obtain ⟨s1, s2, s3, s4, s5, s6⟩ := id VS
              clear hKp
              go_wp2
              go_roundw
              case rel => refine ⟨_, _, _, _, _, _, _, _, _, _, _, _, _, _, _, _, _, _, _, _, _, _, ⟨i + 1, by omega, ?_, _, _, _, _, _, _, _, _, VS_n, r_n, HS2, BB_n⟩, rfl⟩; go_num
              case measure => simp [intOf]; omega
            · have HS2 : Hid (StI q n (r fn).val (i + 1) σ) := HST.out.no hlt (of_decide_eq_false (by rw [← HC.out]; exact decide_eq_false hc))
              have g9 : decide (cq ≤ 0) = false := decide_eq_false hc
              clear HC HST QV rv X7 r7
              go_wp2
              go_roundw
              case rel => exact ⟨i + 1, by omega, by go_num, σ, _, _, _, _, _, _, _, VS, hs, HS2, BB⟩
              case measure => simp [intOf]; omega
          · obtain rfl : i = n + 1 := by omega
            have h1_ : ¬ (((n + 1 : Nat) : Int)) < (n : Int) + 1 := by omega
            have h1b : ¬ ((n : Int) + 1) < (n : Int) + 1 := by omega
            have HSG : Hid (qsz σ ≤ 8) := HST.out.sz
            have HMY : Hid (∀ i, i < kk → MayT (m : Int) (T i) (NN i)) := (mayB_may HB.out).2.2.2
            have HSUM : Hid (sumq (leafV T NN (setC r fn σ)) kk = sumq (leafV T NN r) kk) := sumq_congr10 kk (leafV_stand HCI.out HMS.out HST.out HMY.out)
            have CRx := CR8.out.below BB
            obtain ⟨el, hrow, hcel⟩ := id CRx
            obtain ⟨_, _, ev, hmc, _, hcells⟩ := hrow
            cases ev
            obtain ⟨_, _, ea, hce⟩ := hcells (by omega)
            cases ea
            have hA1 : Below wr.heap.size wr (wr.alloc (.cells #[] 71)) := (Below.refl _ _).alloc (Nat.le_refl _) _
            have BBa := BB.trans (hA1.mono BB.size)
            have hoe : (wr.alloc (.cells #[] 71)).ownsRow wr.heap.size 71 4 (.slice (some ⟨wr.heap.size, 0, none⟩) 0 0) 0 [] := owns_empty10 wr wr.heap.size _ 4 (Nat.le_refl _)
            have HPE : Hid (∀ g, (Value.slice (some ⟨wr.heap.size, 0, none⟩) 0 0).ownBlock = some g → PureB IsLimb (wr.alloc (.cells #[] 71)) g) := fun g hg => by
              simp only [Value.ownBlock, Option.some.injEq] at hg
              subst hg
              exact pure_of_cells (heap_alloc_new wr _) (fun u hu => by simp at hu)
            have HNW : Hid (∀ j u, (flat4 el m)[j]? = some u → (wr.alloc (.cells #[] 71)).cell? ((⟨b4, o4, none⟩ : Addr).add j) = some u) := fun j u hu => by
              obtain ⟨i, x, h1, h2, rfl, rfl⟩ := flat4_get hu
              have h3 := hce i h1 x h2
              have h4 := (hA1.cell (p := ⟨b4, o4 + i * 4 + x, none⟩) (World.block_lt_of_cell? _ _ h3)).trans h3
              rw [add_off, ← Nat.add_assoc]
              exact h4
            have HKD : Hid (∀ u ∈ flat4 el m, ¬ IsLimb u ∧ u.oneCell' = true) := fun u hu => by
              obtain ⟨i, x, h1, h2, rfl⟩ := flat4_mem hu
              exact (hcel i h1).kinds x h2
            have HCE : Hid (∀ i, i < m → CellAt wr (el i) (r i) 8) := hcel
            have hla : (wr.alloc (.cells #[] 71)).heap.size = wr.heap.size + 1 := by simp
            have VSa := VS.below hA1
            have hsa := hs.below hA1
            have hVSl : w7.heap.size < wr.heap.size := VS.lt
            clear hce hcel hcells CRx VS hs
            go_wp2_with (first
              | (at_builtin
                 refine wpList_append_pureM (Q' := IsLimb) rfl _ _ _ rfl wr.heap.size 71 (.agg #[.bool false, .bool false, .slice none 0 0, .slice none 0 0]) 4 64 Tryz.underlying23 info_cell rfl (by omega) (.slice (some ⟨wr.heap.size, 0, none⟩) 0 0) rfl 0 [] hoe HPE.out ⟨b4, o4, none⟩ m cu (by omega) (by omega) rfl (flat4 el m) (flat4_len _ _) HNW.out (fun u hu => (HKD.out u hu).2) (fun u hu => (HKD.out u hu).1) (by intro u hu; simp [Value.cells] at hu; rcases hu with rfl | rfl <;> first | exact limb_bool _ | exact limb_slice _ _ _) (by omega) (by omega) (by omega) ?_
                 intro g3 c3 w3 hO3 hg3 hat3 hP3 hK3
                 simp only [Nat.zero_add, List.nil_append] at hO3 ⊢
                 have BB3 : Below w7.heap.size w7 w3 := below_grownB BBa hg3 (by omega) (fun g h => by simp only [Value.ownBlock, Option.some.injEq] at h; omega)
                 have VS3 := VSa.grown hg3 (fun e => by simp only [Value.ownBlock, Option.some.injEq] at e; omega)
                 have hs3 := hsa.keepL hK3
                 have HC3 : Hid (∀ i, i < m → CellAt w3 (el i) (r i) 8) := fun i hi => ((HCE.out i hi).below hA1).keepL hK3
                 have hg8 : w7.heap.size ≤ g3 := by
                   rcases hat3 with h | h
                   · simp only [Value.ownBlock, Option.some.injEq] at h; omega
                   · omega
                 clear hoe HPE HNW hA1 BBa VSa hsa hg3 hat3 hK3 HCE hla BB
                 obtain ⟨j0, hj0, _, hy0, _⟩ := info_parts info_cell
                 have HJ0 : Hid (Tryz.prog.info? 71 = some j0 ∧ j0.size = 4) := ⟨hj0, hy0⟩
                 clear hj0 hy0
                 obtain ⟨cur, hcur, hfit, _, hO4⟩ := owns_splice (o := fn * 4) (cs := [.bool false, .bool p5, .slice a5 n5 c5, .slice y5 m5 d5]) hO3 (by simp; omega)
                 obtain ⟨hP4, hK4⟩ := pure_splice (o := fn * 4) (cs := [.bool false, .bool p5, .slice a5 n5 c5, .slice y5 m5 d5]) hcur hP3 (by intro u hu; simp at hu; rcases hu with rfl | rfl | rfl | rfl <;> first | exact limb_bool _ | exact limb_slice _ _ _)
                 have BB4 : Below w7.heap.size w7 (w3.setRow g3 (spl10 cur.toList (fn * 4) [.bool false, .bool p5, .slice a5 n5 c5, .slice y5 m5 d5]).toArray) := below_setRow BB3 hg8 _
                 have CO4 : CRow (w3.setRow g3 (spl10 cur.toList (fn * 4) [.bool false, .bool p5, .slice a5 n5 c5, .slice y5 m5 d5]).toArray) (.slice (some ⟨g3, 0, none⟩) m c3) m (setC r fn σ) 8 := set_row10 hfm hO4 (fun i hi => (HC3.out i hi).keepL hK4) ((hs3.keepL hK4).at 8 HSG.out)
                 have hf5 : fn * 4 + (#[.bool false, .bool p5, .slice a5 n5 c5, .slice y5 m5 d5] : Array Value).size ≤ cur.size := by simp at hfit; simpa using hfit
                 have HBB4 : Hid (Below w7.heap.size w7 (w3.setRow g3 (spl10 cur.toList (fn * 4) [.bool false, .bool p5, .slice a5 n5 c5, .slice y5 m5 d5]).toArray)) := BB4
                 have HCO4 : Hid (CRow (w3.setRow g3 (spl10 cur.toList (fn * 4) [.bool false, .bool p5, .slice a5 n5 c5, .slice y5 m5 d5]).toArray) (.slice (some ⟨g3, 0, none⟩) m c3) m (setC r fn σ) 8) := CO4
                 clear BB4 CO4 hP4 hK4 hO4 HC3 hs3 hO3 hP3 hfit HKD
                 obtain ⟨s1, s2, s3, s4, s5, s6⟩ := id VS3
                 have VM4 := VM8.out.below HBB4.out
                 obtain ⟨M_0, M_1, M_2, M_3⟩ := id VM4)
              | (refine wpList_store_in rfl 71 _ _ rfl j0 HJ0.out.1 g3 (fn * 4) rfl #[.bool false, .bool p5, .slice a5 n5 c5, .slice y5 m5 d5] rfl cur 71 hcur hf5 HJ0.out.2 (by simp [Value.oneCell']) ?_))
            clear M_0 M_1 M_2 M_3 s1 s2 s3 s4 s5 s6
            have BB := HBB4.out
            have CO := HCO4.out
            have VM := VM4
            clear HBB4 HCO4 hcur hf5 VM4 VS3 BB3
            generalize (w3.setRow g3 (spl10 cur.toList (fn * 4) [.bool false, .bool p5, .slice a5 n5 c5, .slice y5 m5 d5]).toArray) = W5 at *
            have ht := ht8.out.below BB
            have MR := (MR8.out.below BB).mono10 (L' := 8) (by omega)
            have CR := CR8.out.below BB
            have BBw := BB8.out.trans (BB.mono BB8.out.size)
            clear BB
            have BB := BBw
            clear BBw
            have HWY : Hid (whyI (m : Int) kk NN T m = 0) := whyI_yes HB.out rfl
            refine (rpredict_yes (m : Int) _ _ kk m NN T r 8 _ MR CR ht (by omega) (by omega) HWY.out (by omega) HMY.out (by omega)).mono ?_
            rintro e w48 ⟨vx, rfl, hx, b48⟩
            replace ht := ht.below b48
            replace MR := MR.below b48
            replace CR := CR.below b48
            replace CO := CO.below b48
            replace VM := VM.below b48
            replace BB := BB.trans (b48.mono BB.size)
            clear b48
            obtain ⟨px, ax, nx, cx, yx, mx, dx, rfl⟩ := hx.open
            have hZ71 : w.heap.size ≤ w48.heap.size := BB.size
            have hN71VM : w.heap.size ≠ w48.heap.size := Nat.ne_of_lt VM.lt
            obtain ⟨W71, hW71, hS71, hL71, VP⟩ := V3.lay w48 44 (.bool px) (.slice ax nx cx) (.slice yx mx dx)
            replace ht := ht.below hL71
            replace MR := MR.below hL71
            replace CR := CR.below hL71
            replace CO := CO.below hL71
            replace hx := hx.below hL71
            replace VM := VM.below hL71
            replace BB := BB.trans (hL71.mono BB.size)
            clear hL71
            obtain ⟨VP_0, VP_1, VP_2, VP_3, VP_4, VP_5⟩ := id VP
            obtain ⟨VM_0, VM_1, VM_2, VM_3⟩ := id VM
            rw [hW71] at VP_0 VP_1 VP_2 VP_3 VP_4 VP_5 VM_0 VM_1 VM_2 VM_3
            go_wp2_with fail
            clear VP_0 VP_1 VP_2 VP_3 VP_4 VP_5 VM_0 VM_1 VM_2 VM_3
            rw [← hW71]
            generalize w48.heap.size = R71 at *
            clear hW71 hS71
            refine (rpredict_yes (m : Int) _ _ kk m NN T (setC r fn σ) 8 _ MR CO ht (by omega) (by omega) HWY.out (by omega) HMY.out (by omega)).mono ?_
            rintro e w49 ⟨vy, rfl, hy, b49⟩
            replace ht := ht.below b49
            replace MR := MR.below b49
            replace CR := CR.below b49
            replace CO := CO.below b49
            replace hx := hx.below b49
            replace VM := VM.below b49
            replace VP := VP.below b49
            replace BB := BB.trans (b49.mono BB.size)
            clear b49
            rw [HSUM.out] at hy
            obtain ⟨py, ay, ny, cy, yy, my, dy, rfl⟩ := hy.open
            have HZS : Hid (qsz (sumq (leafV T NN r) kk) ≤ 55) := by
              have h1 := qsz_sumq (leafV T NN r) 8 kk (leafV_sz MR (by omega) HMY.out r)
              show qsz _ ≤ 55
              omega
            have hZ72 : w.heap.size ≤ w49.heap.size := BB.size
            have hN72VM : w.heap.size ≠ w49.heap.size := Nat.ne_of_lt VM.lt
            have hN72VP : R71 ≠ w49.heap.size := Nat.ne_of_lt VP.lt
            obtain ⟨W72, hW72, hS72, hL72, VQ⟩ := V3.lay w49 44 (.bool py) (.slice ay ny cy) (.slice yy my dy)
            replace ht := ht.below hL72
            replace MR := MR.below hL72
            replace CR := CR.below hL72
            replace CO := CO.below hL72
            replace hx := hx.below hL72
            replace hy := hy.below hL72
            replace VM := VM.below hL72
            replace VP := VP.below hL72
            replace BB := BB.trans (hL72.mono BB.size)
            clear hL72
            obtain ⟨VP_0, VP_1, VP_2, VP_3, VP_4, VP_5⟩ := id VP
            obtain ⟨VQ_0, VQ_1, VQ_2, VQ_3, VQ_4, VQ_5⟩ := id VQ
            rw [hW72] at VP_0 VP_1 VP_2 VP_3 VP_4 VP_5 VQ_0 VQ_1 VQ_2 VQ_3 VQ_4 VQ_5
            go_wp2_with fail
            clear VP_0 VP_1 VP_2 VP_3 VP_4 VP_5 VQ_0 VQ_1 VQ_2 VQ_3 VQ_4 VQ_5
            rw [← hW72]
            generalize w49.heap.size = R72 at *
            clear hW72 hS72
            refine (qsame_at _ _ _ _ 55 _ (hx.at _ HZS.out) (hy.at _ HZS.out) (by omega) (by omega)).mono ?_
            rintro e w50 ⟨rfl, b50⟩
            replace ht := ht.below b50
            replace MR := MR.below b50
            replace CR := CR.below b50
            replace CO := CO.below b50
            replace hx := hx.below b50
            replace hy := hy.below b50
            replace VM := VM.below b50
            replace VP := VP.below b50
            replace VQ := VQ.below b50
            replace BB := BB.trans (b50.mono BB.size)
            clear b50
            rw [decide_eq_true rfl]
            go_wp2_with fail
            refine (awake10_at _ ht).mono ?_
            rintro e w51 ⟨rfl, b51⟩
            replace ht := ht.below b51
            replace MR := MR.below b51
            replace CR := CR.below b51
            replace CO := CO.below b51
            replace hx := hx.below b51
            replace hy := hy.below b51
            replace VM := VM.below b51
            replace VP := VP.below b51
            replace VQ := VQ.below b51
            replace BB := BB.trans (b51.mono BB.size)
            clear b51
            go_wp2
            go_ret
            exact ⟨rfl, BB⟩
      · obtain ⟨VM_0, VM_1, VM_2, VM_3⟩ := id VM
        go_wp2_with fail
        clear VM_0 VM_1 VM_2 VM_3
        refine (awake10_at _ ht).mono ?_
        rintro e w8 ⟨rfl, b8⟩
        replace ht := ht.below b8
        replace MR := MR.below b8
        replace CR := CR.below b8
        replace FS := FS.below b8
        replace VM := VM.below b8
        replace BB := BB.trans (b8.mono BB.size)
        clear b8
        go_wp2
        go_ret
        exact ⟨rfl, BB⟩
    · have g2 : ((m : Int) != F) = true := by simpa using hmF
      have g3 : decide ((m : Int) = F) = false := decide_eq_false hmF
      obtain ⟨VM_0, VM_1, VM_2, VM_3⟩ := id VM
      go_wp2_with fail
      clear VM_0 VM_1 VM_2 VM_3
      refine (awake10_at _ ht).mono ?_
      rintro e w8 ⟨rfl, b8⟩
      replace ht := ht.below b8
      replace MR := MR.below b8
      replace CR := CR.below b8
      replace FS := FS.below b8
      replace VM := VM.below b8
      replace BB := BB.trans (b8.mono BB.size)
      clear b8
      go_wp2
      go_ret
      exact ⟨rfl, BB⟩
  · obtain ⟨e1, he1⟩ : ∃ e1, cutW F kk NN T f = e1 := ⟨_, rfl⟩
    have HE : Hid (cutW F kk NN T f = e1) := he1
    have HN : Hid (cutW F kk NN T f ≠ 0) := h0
    rw [he1] at h0
    clear he1
    have g2 : (e1 != 0) = true := by simpa using h0
    have g3 : decide (e1 = 0) = false := decide_eq_false h0
    refine (rsteps_no F f _ kk NN T 4 _ MR ht (by omega) (by omega) HN.out).mono ?_
    rintro e w7 ⟨rfl, b7⟩
    replace ht := ht.below b7
    replace MR := MR.below b7
    replace CR := CR.below b7
    replace VM := VM.below b7
    replace BB := BB.trans (b7.mono BB.size)
    clear b7
    rw [HE.out]
    obtain ⟨VM_0, VM_1, VM_2, VM_3⟩ := id VM
    go_wp2_with fail
    clear VM_0 VM_1 VM_2 VM_3
    refine (awake10_at _ ht).mono ?_
    rintro e w8 ⟨rfl, b8⟩
    replace ht := ht.below b8
    replace MR := MR.below b8
    replace CR := CR.below b8
    replace VM := VM.below b8
    replace BB := BB.trans (b8.mono BB.size)
    clear b8
    go_wp2
    go_ret
    exact ⟨rfl, BB⟩
theorem own : ownKnob Tryz.prog.godebug = none := by kernel_rfl
theorem laidOut : laidOutB Tryz.prog = true := by kernel_rfl

abbrev laid1 : List (String × DataW Unit) := [("math/bits.deBruijn64tab", Rows.laid_math_bits_deBruijn64tab)]
theorem gTab : Tryz.prog.globalNamed "math/bits.deBruijn64tab" = some 0 := by kernel_rfl
theorem gTabType : (Tryz.prog.globals[0]?).map (·.type) = some 170 := by kernel_rfl
theorem uTab : Tryz.prog.underlying 170 = some (.array 64 5) := by kernel_rfl
theorem uCell : Tryz.prog.underlying 5 = some (.int .u8) := by kernel_rfl
theorem cCell : Tryz.prog.cellsOf 5 = 1 := by kernel_rfl
theorem cTab : Tryz.prog.cellsOf 170 = 64 := by kernel_rfl
/-- The listed table lies in its cells. -/
theorem tab_of {W : World} (h : laidMetH Tryz.prog laid1 W) : Tab W := by
  rw [MakeChecks.laidMetH_plain _ _ _ (by kernel_rfl)] at h
  have hd : laid1 = [("math/bits.deBruijn64tab", Lib.tabData .u8 (Lib.deBruijn64tab.map fun (n : Nat) => Int.ofNat n))] := rfl
  rw [hd] at h
  have hT := Lib.tabIs_of_head gTab gTabType uTab uCell cCell cTab h
  intro i hi
  have hc := hT.cell gTab i (by rw [List.length_map]; exact hi)
  rw [hc]
  congr 2
  rw [List.getD_eq_getElem?_getD, List.getElem?_map, List.getD_eq_getElem?_getD]
  cases Lib.deBruijn64tab[i]? <;> rfl
/-- A start for the witness: the heap that the run of the program's own initialisers leaves. -/
noncomputable def startW (os : Os) : World := { World.holding Tryz.prog os ⟨#[], #[], []⟩ with heap := (varsWorld Tryz.prog 400 (varsId Tryz.prog) os (fun _ _ => 0)).heap }
theorem start_met (os : Os) (args : Array Value) : laidMetH Tryz.prog laid1 ((startW os).forCall (fun _ _ => 0) ⟨#[], args, []⟩).memory :=
  laidMetH_of_parts3 (fuel := 8) (laidMet_of_run' 8 (by kernel_rfl) (by kernel_rfl)) (by kernel_rfl) (by kernel_rfl)

set_option maxRecDepth 100000 in
theorem lifted (os : Os) (started : os.Started) (H : Type) (enc : TypeId × Value → H) :
    ReturnsInHanded {} Tryz.checked os 7 .any (fun w args => (Rows.routeStandsSpec.pre enc Tryz.prog Tryz.f7 [] false w args ∧ laidMetH Tryz.prog laid1 w) ∧ sizedMet enc Tryz.prog Tryz.f7 (OpenSpec.ofChange Rows.routeStandsSpec) false w args) (Rows.routeStandsSpec.post enc Tryz.prog Tryz.f7 false true false false) := by
  refine returnsInHanded_of_change_and (C := Tryz.checked) (X := fun w _ => laidMetH Tryz.prog laid1 w) (fun _ _ _ hh h => h.of_heap hh) own started (by kernel_rfl) Tryz.func7
    (ChangeSpec.witness_shaped (enc := enc) (C := Tryz.checked) (os := os) (X := fun w _ => laidMetH Tryz.prog laid1 w) false (startW os) #[.agg #[.int .i64 0, .slice none 0 0], .slice none 0 0, .int .i64 0] 8 rfl (World.shaped_of_RefB (by kernel_rfl) (by kernel_rfl)) (by kernel_rfl) (by kernel_rfl) (by kernel_rfl) (start_met os _)) ?_
  intro W base args ds gs before hval0 hW _ _ hL _
  have hval : ∀ (j : Nat) t v, Tryz.f7.params[j]? = some t → args[j]? = some v → Value.okWide Tryz.prog W .any base t v := hval0
  have hW' := hW
  obtain ⟨p, q, hA0, hV, rfl, hfz, hnd⟩ := hW
  have hA : DataW.TrodAll enc Tryz.prog W 0 (fun _ => true) true Tryz.f7.params.toList args.toList ds p := hA0
  rw [Tryz.params7] at hA hval
  obtain ⟨v0, vs0, d0, ds0, p0, q0, hargs, rfl, rfl, h0, r0⟩ := trodAll_cons hA
  obtain ⟨v1, vs1, d1, ds1, p1, q1, rfl, rfl, rfl, h1, r1⟩ := trodAll_cons r0
  obtain ⟨v2, vs2, d2, ds2, p2, q2, rfl, rfl, rfl, h2, r2⟩ := trodAll_cons r1
  obtain ⟨rfl, rfl, rfl⟩ := trodAll_nil r2
  obtain rfl : args = #[v0, v1, v2] := by cases args; simp_all
  obtain ⟨rfl, rfl⟩ := trodVars_none hV
  have k0 := h0
  have lt0 : ∀ x ∈ p0, x.block < W.heap.size := by obtain ⟨m, hm⟩ := k0; exact DataW.trod_lt m _ _ _ hm
  obtain ⟨F0, a0, c0, n0, N0, z0, rfl, f0, w0⟩ := open_model 4 (hval 0 27 v0 rfl rfl) h0
  have k1 := h1
  have lt1 : ∀ x ∈ p1, x.block < W.heap.size := by obtain ⟨m, hm⟩ := k1; exact DataW.trod_lt m _ _ _ hm
  obtain ⟨n1, z1, w1⟩ := open_cells 3 (hval 1 23 v1 rfl rfl) h1
  obtain ⟨a2, rfl, rfl, rfl, w2⟩ := open_int Tryz.underlying3 (hval 2 3 v2 rfl rfl) h2
  clear hA0 hval0
  refine (walk _ _ _ _ _ _ _ _ _ a2 W f0 w0 w1 w2 (tab_of hL)).mono fun e W' ⟨he, bel⟩ => ?_
  subst he
  exact ⟨_, rfl, _, _, _, [], _, [], hW', trodAll_mk1 (shut_bool Tryz.underlying4 _), (trodAll_cons_mk (Below.trod laidOut (by kernel_rfl) (of_decide_eq_true (by kernel_rfl)) k0 bel lt0) (trodAll_cons_mk (Below.trod laidOut (by kernel_rfl) (of_decide_eq_true (by kernel_rfl)) k1 bel lt1) (trodAll_cons_mk (shut_int Tryz.underlying3 w2) trodAll_mk0))), rfl, bel.frame _, fun h => by cases h⟩

theorem over : Rows.routeStandsRow.holds Tryz.pinned (OpenSpec.ofChange Rows.routeStandsSpec) :=
  OpenClaim.holds_of_wide 7 Tryz.f7 rfl rfl rfl rfl rfl rfl rfl ⟨rfl, rfl, rfl, rfl, rfl⟩ rfl rfl rfl rfl rfl (by kernel_rfl) Tryz.func7 (by kernel_rfl)
    (of_decide_eq_true (by kernel_rfl)) (by unfold Func.isWrapper; first | (rw [if_pos (by decide +kernel)]; kernel_rfl) | (rw [if_neg (by decide +kernel)]; exact ⟨rfl, rfl⟩))
    (fun os started H enc _ => lifted os started H enc)

end Go.Proofs.YtnnnkajomljdgaaGreatDoor.routeStands
namespace Go.Proofs.YtnnnkajomljdgaaGreatDoor
/-- The statement: the row, tied to the text of the program. -/
theorem routeStands_holds : Rows.RouteStandsCardSaid :=
  Claim7.holds_tied_plain_at .later [] [.data] true (true, "60721c48722a9e8b562d581eaa8eecad4e5ec86f465869b22e499f0c68cb6c50") false
    routeStands.over (fun _ h => by cases h) (by kernel_rfl) (fun _ h => by cases h) routeStands_row_tie rfl ⟨rfl, rfl⟩ (by kernel_rfl) rfl
    (fun f fn hf hfn => by
      obtain rfl : f = 7 := Option.some.inj ((show Tryz.prog.funcNamed "dendron/dendronlaw10.RouteStands" = some 7 by kernel_rfl).symm.trans hf) |>.symm
      obtain rfl : fn = Tryz.f7 := (Option.some.inj (Tryz.func7.symm.trans hfn)).symm
      exact ⟨by kernel_rfl, fun j t ht => by
        rw [Tryz.params7] at ht
        have hm : t ∈ [27, 23, 3] := by simpa using Array.mem_of_getElem? ht
        have hall : ([27, 23, 3].all fun u => !Tryz.prog.wantsStandIn u) = true := by kernel_rfl
        exact (show Tryz.prog.wantsStandIn t = false by simpa using List.all_eq_true.1 hall t hm)⟩)
    (by kernel_rfl)
end Go.Proofs.YtnnnkajomljdgaaGreatDoor
