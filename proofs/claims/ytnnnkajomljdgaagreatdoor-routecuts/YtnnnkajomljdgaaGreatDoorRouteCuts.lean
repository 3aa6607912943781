/-
 Proves that Cuts tells at which numbers the splits of any model of up to 6 trees of up to 15 nodes ask for a feature, rising, each once, and Steps the first less 1 and all of them, or why there are none, whatever comes in (the statement RouteCuts, its tied card); the table of math/bits lies as the program's text lays it; no other condition.
-/
import Derived.Test.YtnnnkajomljdgaaGreatDoorJ88b258d9b9
import Derived.Test.YtnnnkajomljdgaaGreatDoorRows
import Derived.Test.YtnnnkajomljdgaaGreatDoorJb44867797f
import Derived.Test.YtnnnkajomljdgaaGreatDoorJa9c594a42f
import Derived.Test.YtnnnkajomljdgaaGreatDoorJ957947a780
import Derived.Test.YtnnnkajomljdgaaGreatDoorJcb18dc1c00
import Derived.Test.YtnnnkajomljdgaaGreatDoorJ7aca71864f
import Derived.WalkKit
import Derived.ProofKit
import Derived.OpenShut
import Derived.ShutString
import Derived.ChangeOld
import Derived.Below
import Derived.Test.YtnnnkajomljdgaaGreatDoorTie
import Derived.Test.YtnnnkajomljdgaaGreatDoorCards
import Derived.LaidByTextLater
import Derived.LaidHandle
import Derived.Lib.LaidTab
import Derived.SevenTiedAt
namespace Go.Proofs.YtnnnkajomljdgaaGreatDoor.routeCuts
open Go.ChangeShapes Go.WideShapes Go.ChangeAt Go.RowKit
open Go.ChangeMaps (open_string shut_string)
set_option linter.unusedVariables false
set_option linter.unusedSimpArgs false

theorem _root_.Go.Proofs.YtnnnkajomljdgaaGreatDoor.FRow.congr10 {w : World} {v : Value} {n : Nat} {q q' : Nat → Rat} (h : FRow w v n q) (e : ∀ i, i < n → q i = q' i) : FRow w v n q' := by
 obtain ⟨el, h1, h2⟩ := h
 exact ⟨el, h1, fun i hi => by rw [← e i hi]; exact h2 i hi⟩
theorem cut_unique {T : Nat → Nat → Nd} {N : Nat → Nat} {k : Nat} {f : Int} {L : Nat} {q q' : Nat → Rat} {n n' : Nat} (h : CutI T N k f L k 0 q n) (h' : CutI T N k f L k 0 q' n') : n' = n ∧ ∀ i, i < n → q i = q' i := by
 have inn : ∀ i, i < n → ∃ j, j < n' ∧ q' j = q i := fun i hi => by
  obtain ⟨a, b, h1, h2, h3, h4⟩ := h.from_ i hi
  obtain ⟨j, h5, h6⟩ := h'.all a b (.inl h1) h2 h3
  exact ⟨j, h5, h6.trans h4⟩
 have out_ : ∀ i, i < n' → ∃ j, j < n ∧ q j = q' i := fun i hi => by
  obtain ⟨a, b, h1, h2, h3, h4⟩ := h'.from_ i hi
  obtain ⟨j, h5, h6⟩ := h.all a b (.inl h1) h2 h3
  exact ⟨j, h5, h6.trans h4⟩
 have key : ∀ i, i < n → i < n' ∧ q i = q' i := by
  intro i
  induction i using Nat.strongRecOn with
  | ind i ih =>
   intro hi
   obtain ⟨j, hj, ej⟩ := inn i hi
   have hij : i ≤ j := by
    by_cases c : j < i
    ·have h1 := (ih j c (by omega)).2
     have h2 := h.srt j i c hi
     grind
    ·omega
   refine ⟨by omega, ?_⟩
   obtain ⟨m, hm, em⟩ := out_ i (by omega)
   have him : i ≤ m := by
    by_cases c : m < i
    ·have h1 := (ih m c hm).2
     have h2 := h'.srt m i c (by omega)
     grind
    ·omega
   have a1 : q i ≤ q m := by
    by_cases c : i = m
    ·rw [c]; grind
    ·have := h.srt i m (by omega) hm; grind
   have a2 : q' i ≤ q' j := by
    by_cases c : i = j
    ·rw [c]; grind
    ·have := h'.srt i j (by omega) hj; grind
   grind
 have hle : n ≤ n' := by
  by_cases c : n = 0
  ·omega
  ·have := (key (n - 1) (by omega)).1; omega
 refine ⟨?_, fun i hi => (key i hi).2⟩
 by_cases c : n < n'
 ·obtain ⟨m, hm, em⟩ := out_ n c
  have h1 := (key m hm).2
  have h2 := h'.srt m n hm c
  grind
 ·omega

set_option maxRecDepth 100000 in
set_option maxHeartbeats 16000000 in
theorem walk (F : Int) (ao : Option Addr) (c k : Nat) (N : Nat → Nat) (T : Nat → Nat → Nd) (f : Int) (w : World) (hF : I64 F) (hv : MRaw w (.slice ao k c) k N T 4) (hf : (Lit.int .i64 f).wf = true) (ht : Tab w) :
  Calls Tryz.prog 6 #[.agg #[.int .i64 F, .slice ao k c], .int .i64 f] w fun e w' => e = .returned (.bool true) ∧ Below w.heap.size w w' := by
 clear hf
 have BB : Below w.heap.size w w := Below.refl _ _
 obtain ⟨Wb0, hW0, hS0, hL0, VM⟩ := V2.lay w 27 (.int .i64 F) (.slice ao k c)
 have ht0 := ht
 replace ht := ht.below hL0
 replace BB := BB.trans (hL0.mono BB.size)
 clear hL0
 go_enter Tryz.func6, Tryz.ntmps6
 obtain ⟨VM_0, VM_1, VM_2, VM_3⟩ := id VM
 rw [hW0] at VM_0 VM_1 VM_2 VM_3
 go_wp2_with fail
 clear VM_0 VM_1 VM_2 VM_3
 rw [← hW0]
 clear hW0 hS0
 have hv1 := hv.below BB
 have hsz : Hid (w.heap.size < Wb0.heap.size) := VM.lt
 refine (few7_at F _ k N T _ hv1).mono ?_
 rintro e w1 ⟨r_, rfl, MO, b1⟩
 replace ht := ht.below b1
 replace VM := VM.below b1
 replace BB := BB.trans (b1.mono BB.size)
 clear b1
 obtain ⟨am, cm, rfl⟩ := MO.form
 clear hv1
 have hk6 : min k 6 ≤ 6 := Nat.min_le_right _ _
 generalize min k 6 = kk at *
 generalize (fun i => min (N i) 15) = NN at *
 obtain ⟨q1, q2, q3, q4⟩ := id VM
 have K1 : KeepQ IsLimb w1 (w1.setCell ⟨w.heap.size, 0, none⟩ (.int .i64 F)) := keepL_set q1 (limb_int _) _
 have K2 := keepL_set (cell_set_by (u := .int .i64 F) (j := 0) q2 (by omega)) (limb_slice _ _ _) (.slice am kk cm)
 have MO_n := (MO.set (a := ⟨w.heap.size, 0, none⟩) (by have := hsz.out; exact this) _ K1).set (a := ⟨w.heap.size, 1, none⟩) (by have := hsz.out; exact this) _ K2
 have VM_n := VM.same (.int .i64 F) (.slice am kk cm)
 have ht_n := (ht.keepL K1).keepL K2
 have BB_n := below_store2 (R := w.heap.size) BB (Nat.le_refl _) (.int .i64 F) (.slice am kk cm)
 obtain ⟨z1, z2, z3, z4⟩ := id VM_n
 go_wp2_with fail
 clear q1 q2 q3 q4 z1 z2 z3 z4 K1 K2 MO VM ht BB
 generalize (w1.setCell ⟨w.heap.size, 0, none⟩ (.int .i64 F)).setCell ⟨w.heap.size, 1, none⟩ (.slice am kk cm) = W3 at *
 have VM := VM_n
 have ht := ht_n
 have BB := BB_n
 have MR := MO_n.row
 clear VM_n ht_n BB_n MO_n ht0
 by_cases h0 : cutW F kk NN T f = 0
 ·obtain ⟨hB, hf0, hfF⟩ := cutW_zero h0
  have HW : Hid (cutW F kk NN T f = 0) := h0
  have HB : Hid (mayB F kk NN T = true) := hB
  have HN5 : Hid (∀ a, a < kk → NN a ≤ 255) := fun a ha => ((mayB_may hB).2.2.2 a ha).few
  have g1 : ¬ f < 0 := by omega
  have g1b : decide (f < 0) = false := decide_eq_false g1
  have g2 : ¬ f ≥ F := by omega
  have g2b : decide (f ≥ F) = false := decide_eq_false g2
  clear hB hf0 hfF h0
  refine (rcuts_yes F f _ kk NN T 4 _ MR ht (by omega) (by omega) HW.out).mono ?_
  rintro e w6 ⟨u1, n, q, rfl, FO, HC1, b6⟩
  replace ht := ht.below b6
  replace MR := MR.below b6
  replace VM := VM.below b6
  replace BB := BB.trans (b6.mono BB.size)
  clear b6
  have FL := FO.row
  clear FO
  obtain ⟨a5, c5, rfl⟩ := FL.open
  have HCI : Hid (CutI T NN kk f 4 kk 0 q n) := HC1
  clear HC1
  obtain ⟨VM_0, VM_1, VM_2, VM_3⟩ := id VM
  go_wp2_with fail
  clear VM_0 VM_1 VM_2 VM_3
  refine (rsteps_yes F f _ kk NN T 4 _ MR ht (by omega) (by omega) HW.out).mono ?_
  rintro e w7 ⟨u2, n2, q2, rfl, FS, HC2, b7⟩
  replace ht := ht.below b7
  replace MR := MR.below b7
  replace FL := FL.below b7
  replace VM := VM.below b7
  replace BB := BB.trans (b7.mono BB.size)
  clear b7
  obtain ⟨rfl, hqq⟩ := cut_unique HC2 HCI.out
  have FS := FS.congr10 (q' := stq q n) (fun i hi => by
   unfold stq
   by_cases e1 : n = 0
   ·rw [if_pos e1, if_pos e1]
   ·rw [if_neg e1, if_neg e1]
    by_cases e2 : i = 0
    ·rw [if_pos e2, if_pos e2, hqq 0 (by omega)]
    ·rw [if_neg e2, if_neg e2, hqq (i - 1) (by omega)])
  clear HC2 hqq
  obtain ⟨a7, c7, rfl⟩ := FS.open
  obtain ⟨VM_0, VM_1, VM_2, VM_3⟩ := id VM
  go_wp2_with fail
  clear VM_0 VM_1 VM_2 VM_3
  refine (ok_may F _ kk NN T 4 _ MR ht (by omega) (by omega)).mono ?_
  rintro e w8 ⟨rfl, b8⟩
  replace ht := ht.below b8
  replace MR := MR.below b8
  replace FL := FL.below b8
  replace FS := FS.below b8
  replace VM := VM.below b8
  replace BB := BB.trans (b8.mono BB.size)
  clear b8
  rw [HB.out]
  have hn9 : n ≤ 100000 := by have := HCI.out.cnt; omega
  obtain ⟨VM_0, VM_1, VM_2, VM_3⟩ := id VM
  go_wp2
  clear VM_0 VM_1 VM_2 VM_3
  have ht0 : Hid (Tab w8) := ht
  have MR0 : Hid (MRow w8 (.slice am kk cm) kk NN T 4) := MR
  have FL0 : Hid (FRow w8 (.slice a5 n c5) n q) := FL
  have FS0 : Hid (FRow w8 (.slice a7 (n + 1) c7) (n + 1) (stq q n)) := FS
  have VM0 : Hid (V2 w8 w.heap.size (.int .i64 F) (.slice am kk cm)) := VM
  have BB0 : Hid (Below w.heap.size w w8) := BB
  clear ht MR FL FS VM BB g1 g1b g2 g2b
  go_loopw [10] (fun vi wr => ∃ i : Nat, i ≤ n ∧ vi = .int .i64 (i : Int) ∧ Below w8.heap.size w8 wr) (fun vi _ => n - (intOf vi).toNat)
  case atStart => exact ⟨0, by omega, rfl, Below.refl _ _⟩
  case round =>
   obtain ⟨i, hi, rfl, BB⟩ := hrel
   by_cases hlt : i < n
   ·have g1_ : (i : Int) < (n : Int) := by omega
    have g0 : (0 : Int) ≤ (i : Int) := by omega
    have wi : IntKind.i64.wrap ((i : Int) + 1) = (i : Int) + 1 := by rw [IntKind.wrap_i64]; omega
    have ht := ht0.out.below BB
    have MR := MR0.out.below BB
    have VM := VM0.out.below BB
    have FL := FL0.out.below BB
    obtain ⟨b4, o4, c4, p4, a4, m4, d4, y4, k4, e4, hv4, hc4, X4, r4⟩ := FL.at i hlt
    cases hv4
    have HAS : Hid (∃ a0 b0, a0 < kk ∧ b0 < NN a0 ∧ asks (T a0 b0) f ∧ (T a0 b0).cut = q i) := HCI.out.from_ i hlt
    have HZ : Hid (qsz (q i) ≤ 4) := HCI.out.sz i hlt
    by_cases hi0 : i = 0
    ·subst hi0
     clear FL
     have g9 : ¬ ((0 : Nat) : Int) > 0 := by omega
     go_wp2
     have X4z := X4
     simp only [Nat.zero_mul, Nat.add_zero] at X4
     have hDr : Below wr.heap.size wr wr.drew := (Below.refl _ _).drew
     replace ht := ht.below hDr
     replace MR := MR.below hDr
     replace X4 := X4.below hDr
     replace r4 := r4.below hDr
     replace VM := VM.below hDr
     replace BB := BB.trans (hDr.mono BB.size)
     clear hDr
     refine wp_region_held_drew (S := (fun w' => w'.cell? ⟨w.heap.size, 0, none⟩ = some (.int .i64 F) ∧ w'.cell? ⟨w.heap.size, 1, none⟩ = some (.slice am kk cm) ∧ w'.cell? ⟨b4, o4, none⟩ = some (.bool p4) ∧ w'.cell? ⟨b4, o4 + 1, none⟩ = some (.slice a4 m4 d4) ∧ w'.cell? ⟨b4, o4 + 2, none⟩ = some (.slice y4 k4 e4))) (by kernel_rfl) ?_ (fun hHeld => ?_)
     ·exact ⟨VM.1, VM.2.1, X4.cells10.1, X4.cells10.2.1, X4.cells10.2.2⟩
     generalize wr.drew = W32 at *
     refine wpAnyH_take (i := 0) (v := ?_) (by simp only [xL1, xL2, xL3]; rfl) (by kernel_rfl) (by kernel_rfl) (by kernel_rfl) (by exact fun _ _ _ h => h) (Or.inl ⟨by rfl, ?_⟩) (by assumption) ?_
     rotate_left
     ·(intro w hSw; (try dsimp only at hSw); go_simp; (try with_reducible rfl))
     (try simp only [Act.put, xL4, xL5, xL6])
     refine wpAnyH_take (i := 1) (v := ?_) (by simp only [xL1, xL2, xL3]; rfl) (by kernel_rfl) (by kernel_rfl) (by kernel_rfl) (by exact fun _ _ _ h => h) (Or.inl ⟨by rfl, ?_⟩) (by assumption) ?_
     rotate_left
     ·(intro w hSw; (try dsimp only at hSw); go_simp; (try with_reducible rfl))
     (try simp only [Act.put, xL4, xL5, xL6])
     refine wpAnyH_take (i := 2) (v := ?_) (by simp only [xL1, xL2, xL3]; rfl) (by kernel_rfl) (by kernel_rfl) (by kernel_rfl) (by exact fun _ _ _ h => h) (Or.inl ⟨by rfl, ?_⟩) (by assumption) ?_
     rotate_left
     ·(intro w hSw; (try dsimp only at hSw); go_simp; (try with_reducible rfl))
     (try simp only [Act.put, xL4, xL5, xL6])
     refine wpAnyH_take (i := 3) (v := ?_) (by simp only [xL1, xL2, xL3]; rfl) (by kernel_rfl) (by kernel_rfl) (by kernel_rfl) (by exact fun _ _ _ h => h) (Or.inl ⟨by rfl, ?_⟩) (by assumption) ?_
     rotate_left
     ·(intro w hSw; (try dsimp only at hSw); go_simp; (try with_reducible rfl))
     (try simp only [Act.put, xL4, xL5, xL6])
     refine wpAnyH_ready (rs := [4]) (by kernel_rfl) (by simp) ?_
     refine AllReadyH.cons (by simp only [xL1, xL2, xL3]; rfl) (fun K hK => ?_) AllReadyH.nil
     go_simp
     refine (qright_rep _ _ _ r4 (Nat.le_trans HZ.out (by omega)) ht).mono ?_
     rintro e w10 ⟨rfl, b10⟩
     go_wp2_with fail
     replace ht := ht.below b10
     replace MR := MR.below b10
     replace X4 := X4.below b10
     replace r4 := r4.below b10
     replace VM := VM.below b10
     replace BB := BB.trans (b10.mono BB.size)
     clear b10
     refine hK.out _ _ ?_ (fun hH1 => ?_)
     ·exact ⟨VM.1, VM.2.1, X4.cells10.1, X4.cells10.2.1, X4.cells10.2.2⟩
     clear hK K hHeld
     (try simp only [Act.put, xL4, xL5, xL6])
     refine wpAnyH_take (i := 5) (v := ?_) (by simp only [xL1, xL2, xL3]; rfl) (by kernel_rfl) (by kernel_rfl) (by kernel_rfl) (by exact fun _ _ _ h => h) (Or.inl ⟨by rfl, ?_⟩) (by assumption) ?_
     rotate_left
     ·(intro w hSw; (try dsimp only at hSw); go_simp; (try with_reducible rfl))
     (try simp only [Act.put, xL4, xL5, xL6])
     refine wpAnyH_take (i := 6) (v := ?_) (by simp only [xL1, xL2, xL3]; rfl) (by kernel_rfl) (by kernel_rfl) (by kernel_rfl) (by exact fun _ _ _ h => h) (Or.inl ⟨by rfl, ?_⟩) (by assumption) ?_
     rotate_left
     ·(intro w hSw; (try dsimp only at hSw); go_simp; (try with_reducible rfl))
     (try simp only [Act.put, xL4, xL5, xL6])
     refine wpAnyH_take (i := 7) (v := ?_) (by simp only [xL1, xL2, xL3]; rfl) (by kernel_rfl) (by kernel_rfl) (by kernel_rfl) (by exact fun _ _ _ h => h) (Or.inl ⟨by rfl, ?_⟩) (by assumption) ?_
     rotate_left
     ·(intro w hSw; (try dsimp only at hSw); go_simp; (try with_reducible rfl))
     (try simp only [Act.put, xL4, xL5, xL6])
     refine wpAnyH_take (i := 8) (v := ?_) (by simp only [xL1, xL2, xL3]; rfl) (by kernel_rfl) (by kernel_rfl) (by kernel_rfl) (by exact fun _ _ _ h => h) (Or.inl ⟨by rfl, ?_⟩) (by assumption) ?_
     rotate_left
     ·(intro w hSw; (try dsimp only at hSw); go_simp; (try with_reducible rfl))
     (try simp only [Act.put, xL4, xL5, xL6])
     refine wpAnyH_take (i := 9) (v := ?_) (by simp only [xL1, xL2, xL3]; rfl) (by kernel_rfl) (by kernel_rfl) (by kernel_rfl) (by exact fun _ _ _ h => h) (Or.inl ⟨by rfl, ?_⟩) (by assumption) ?_
     rotate_left
     ·(intro w hSw; (try dsimp only at hSw); go_simp; (try with_reducible rfl))
     (try simp only [Act.put, xL4, xL5, xL6])
     refine wpAnyH_take (i := 10) (v := undef) (by simp only [xL1, xL2, xL3]; rfl) (by kernel_rfl) (by kernel_rfl) (by kernel_rfl) (by exact fun _ _ _ h => h) (Or.inr ⟨by rfl, rfl⟩) (by assumption) ?_
     (try simp only [Act.put, xL4, xL5, xL6])
     refine wpAnyH_take (i := 11) (v := undef) (by simp only [xL1, xL2, xL3]; rfl) (by kernel_rfl) (by kernel_rfl) (by kernel_rfl) (by exact fun _ _ _ h => h) (Or.inr ⟨by rfl, rfl⟩) (by assumption) ?_
     (try simp only [Act.put, xL4, xL5, xL6])
     refine wpAnyH_take (i := 12) (v := undef) (by simp only [xL1, xL2, xL3]; rfl) (by kernel_rfl) (by kernel_rfl) (by kernel_rfl) (by exact fun _ _ _ h => h) (Or.inr ⟨by rfl, rfl⟩) (by assumption) ?_
     (try simp only [Act.put, xL4, xL5, xL6])
     refine wpAnyH_take (i := 13) (v := undef) (by simp only [xL1, xL2, xL3]; rfl) (by kernel_rfl) (by kernel_rfl) (by kernel_rfl) (by exact fun _ _ _ h => h) (Or.inr ⟨by rfl, rfl⟩) (by assumption) ?_
     (try simp only [Act.put, xL4, xL5, xL6])
     refine wpAnyH_take (i := 14) (v := undef) (by simp only [xL1, xL2, xL3]; rfl) (by kernel_rfl) (by kernel_rfl) (by kernel_rfl) (by exact fun _ _ _ h => h) (Or.inr ⟨by rfl, rfl⟩) (by assumption) ?_
     (try simp only [Act.put, xL4, xL5, xL6])
     refine wpAnyH_take (i := 15) (v := undef) (by simp only [xL1, xL2, xL3]; rfl) (by kernel_rfl) (by kernel_rfl) (by kernel_rfl) (by exact fun _ _ _ h => h) (Or.inr ⟨by rfl, rfl⟩) (by assumption) ?_
     (try simp only [Act.put, xL4, xL5, xL6])
     refine wpAnyH_take (i := 16) (v := undef) (by simp only [xL1, xL2, xL3]; rfl) (by kernel_rfl) (by kernel_rfl) (by kernel_rfl) (by exact fun _ _ _ h => h) (Or.inr ⟨by rfl, rfl⟩) (by assumption) ?_
     (try simp only [Act.put, xL4, xL5, xL6])
     refine wpAnyH_take (i := 17) (v := undef) (by simp only [xL1, xL2, xL3]; rfl) (by kernel_rfl) (by kernel_rfl) (by kernel_rfl) (by exact fun _ _ _ h => h) (Or.inr ⟨by rfl, rfl⟩) (by assumption) ?_
     (try simp only [Act.put, xL4, xL5, xL6])
     refine wpAnyH_take (i := 18) (v := undef) (by simp only [xL1, xL2, xL3]; rfl) (by kernel_rfl) (by kernel_rfl) (by kernel_rfl) (by exact fun _ _ _ h => h) (Or.inr ⟨by rfl, rfl⟩) (by assumption) ?_
     (try simp only [Act.put, xL4, xL5, xL6])
     refine wpAnyH_take (i := 19) (v := undef) (by simp only [xL1, xL2, xL3]; rfl) (by kernel_rfl) (by kernel_rfl) (by kernel_rfl) (by exact fun _ _ _ h => h) (Or.inr ⟨by rfl, rfl⟩) (by assumption) ?_
     (try simp only [Act.put, xL4, xL5, xL6])
     refine wpAnyH_take (i := 20) (v := undef) (by simp only [xL1, xL2, xL3]; rfl) (by kernel_rfl) (by kernel_rfl) (by kernel_rfl) (by exact fun _ _ _ h => h) (Or.inr ⟨by rfl, rfl⟩) (by assumption) ?_
     (try simp only [Act.put, xL4, xL5, xL6])
     refine wpAnyH_take (i := 21) (v := ?_) (by simp only [xL1, xL2, xL3]; rfl) (by kernel_rfl) (by kernel_rfl) (by kernel_rfl) (by exact fun _ _ _ h => h) (Or.inl ⟨by rfl, ?_⟩) (by assumption) ?_
     rotate_left
     ·(intro w hSw; (try dsimp only at hSw); go_simp; (try with_reducible rfl))
     (try simp only [Act.put, xL4, xL5, xL6])
     refine wpAnyH_take (i := 22) (v := ?_) (by simp only [xL1, xL2, xL3]; rfl) (by kernel_rfl) (by kernel_rfl) (by kernel_rfl) (by exact fun _ _ _ h => h) (Or.inl ⟨by rfl, ?_⟩) (by assumption) ?_
     rotate_left
     ·(intro w hSw; (try dsimp only at hSw); go_simp; (try with_reducible rfl))
     (try simp only [Act.put, xL4, xL5, xL6])
     refine wpAnyH_take (i := 23) (v := ?_) (by simp only [xL1, xL2, xL3]; rfl) (by kernel_rfl) (by kernel_rfl) (by kernel_rfl) (by exact fun _ _ _ h => h) (Or.inl ⟨by rfl, ?_⟩) (by assumption) ?_
     rotate_left
     ·(intro w hSw; (try dsimp only at hSw); go_simp; (try with_reducible rfl))
     (try simp only [Act.put, xL4, xL5, xL6])
     refine wpAnyH_take (i := 24) (v := ?_) (by simp only [xL1, xL2, xL3]; rfl) (by kernel_rfl) (by kernel_rfl) (by kernel_rfl) (by exact fun _ _ _ h => h) (Or.inl ⟨by rfl, ?_⟩) (by assumption) ?_
     rotate_left
     ·(intro w hSw; (try dsimp only at hSw); go_simp; (try with_reducible rfl))
     (try simp only [Act.put, xL4, xL5, xL6])
     refine wpAnyH_take (i := 25) (v := ?_) (by simp only [xL1, xL2, xL3]; rfl) (by kernel_rfl) (by kernel_rfl) (by kernel_rfl) (by exact fun _ _ _ h => h) (Or.inl ⟨by rfl, ?_⟩) (by assumption) ?_
     rotate_left
     ·(intro w hSw; (try dsimp only at hSw); go_simp; (try with_reducible rfl))
     (try simp only [Act.put, xL4, xL5, xL6])
     refine wpAnyH_take (i := 26) (v := ?_) (by simp only [xL1, xL2, xL3]; rfl) (by kernel_rfl) (by kernel_rfl) (by kernel_rfl) (by exact fun _ _ _ h => h) (Or.inl ⟨by rfl, ?_⟩) (by assumption) ?_
     rotate_left
     ·(intro w hSw; (try dsimp only at hSw); go_simp; (try with_reducible rfl))
     (try simp only [Act.put, xL4, xL5, xL6])
     refine wpAnyH_take (i := 27) (v := ?_) (by simp only [xL1, xL2, xL3]; rfl) (by kernel_rfl) (by kernel_rfl) (by kernel_rfl) (by exact fun _ _ _ h => h) (Or.inl ⟨by rfl, ?_⟩) (by assumption) ?_
     rotate_left
     ·(intro w hSw; (try dsimp only at hSw); go_simp; (try with_reducible rfl))
     (try simp only [Act.put, xL4, xL5, xL6])
     refine wpAnyH_take (i := 28) (v := ?_) (by simp only [xL1, xL2, xL3]; rfl) (by kernel_rfl) (by kernel_rfl) (by kernel_rfl) (by exact fun _ _ _ h => h) (Or.inl ⟨by rfl, ?_⟩) (by assumption) ?_
     rotate_left
     ·(intro w hSw; (try dsimp only at hSw); go_simp; (try with_reducible rfl))
     (try simp only [Act.put, xL4, xL5, xL6])
     refine wpAnyH_take (i := 29) (v := ?_) (by simp only [xL1, xL2, xL3]; rfl) (by kernel_rfl) (by kernel_rfl) (by kernel_rfl) (by exact fun _ _ _ h => h) (Or.inl ⟨by rfl, ?_⟩) (by assumption) ?_
     rotate_left
     ·(intro w hSw; (try dsimp only at hSw); go_simp; (try with_reducible rfl))
     (try simp only [Act.put, xL4, xL5, xL6])
     refine wpAnyH_ready (rs := [30]) (by kernel_rfl) (by simp) ?_
     refine AllReadyH.cons (by simp only [xL1, xL2, xL3]; rfl) (fun K hK => ?_) AllReadyH.nil
     go_simp
     refine (asked10_at F f _ _ kk NN T (q 0) 4 _ MR (r4.at _ HZ.out) (by omega) (by omega) (by omega) HN5.out HAS.out).mono ?_
     rintro e w11 ⟨rfl, b11⟩
     go_wp2_with fail
     replace ht := ht.below b11
     replace MR := MR.below b11
     replace X4 := X4.below b11
     replace r4 := r4.below b11
     replace VM := VM.below b11
     replace BB := BB.trans (b11.mono BB.size)
     clear b11
     refine hK.out _ _ ?_ (fun hH2 => ?_)
     ·exact ⟨VM.1, VM.2.1, X4.cells10.1, X4.cells10.2.1, X4.cells10.2.2⟩
     clear hK K hH1
     (try simp only [Act.put, xL4, xL5, xL6])
     refine wpAnyH_take (i := 31) (v := ?_) (by simp only [xL1, xL2, xL3]; rfl) (by kernel_rfl) (by kernel_rfl) (by kernel_rfl) (by exact fun _ _ _ h => h) (Or.inl ⟨by rfl, ?_⟩) (by assumption) ?_
     rotate_left
     ·(intro w hSw; (try dsimp only at hSw); go_simp; (try with_reducible rfl))
     (try simp only [Act.put, xL4, xL5, xL6])
     refine wpAnyH_take (i := 32) (v := ?_) (by simp only [xL1, xL2, xL3]; rfl) (by kernel_rfl) (by kernel_rfl) (by kernel_rfl) (by exact fun _ _ _ h => h) (Or.inl ⟨by rfl, ?_⟩) (by assumption) ?_
     rotate_left
     ·(intro w hSw; (try dsimp only at hSw); go_simp; (try with_reducible rfl))
     (try simp only [Act.put, xL4, xL5, xL6])
     refine wpAnyH_done (by kernel_rfl) ?_ _
     clear hH2
     go_wp2
     go_roundw
     case rel => exact ⟨0 + 1, by omega, by go_num, BB⟩
     case measure => simp [intOf]; omega
    ·obtain ⟨j, rfl⟩ : ∃ j, i = j + 1 := ⟨i - 1, by omega⟩
     have g9 : ((j + 1 : Nat) : Int) > 0 := by omega
     have g9b : (((j + 1 : Nat) : Int)) - 1 = (j : Int) := by omega
     have g9e : ((j : Int) + 1) - 1 = (j : Int) := by omega
     have g9f : (j : Int) + 1 > 0 := by omega
     have g9c : IntKind.i64.wrap (j : Int) = (j : Int) := by rw [IntKind.wrap_i64]; omega
     have g9d : (0 : Int) ≤ (j : Int) := by omega
     have g9g : (j : Int) < (n : Int) := by omega
     have g9h : (0 : Int) ≤ (j : Int) + 1 := by omega
     have g9i : (j : Int) + 1 < (n : Int) := by omega
     have g9k : ((j : Int) + 1).toNat = j + 1 := by omega
     obtain ⟨b6, o6, c6, p6, a6, m6, d6, y6, k6, e6, hv6, hc6_, X6, r6⟩ := FL.at j (by omega)
     cases hv6
     have HZ6 : Hid (qsz (q j) ≤ 4) := HCI.out.sz j (by omega)
     have HLT : Hid (cmpQ (q j) (q (j + 1)) = -1) := cmpQ_lt (HCI.out.srt j (j + 1) (by omega) hlt)
     clear FL
     go_wp2
     have hDr : Below wr.heap.size wr wr.drew := (Below.refl _ _).drew
     replace ht := ht.below hDr
     replace MR := MR.below hDr
     replace X4 := X4.below hDr
     replace r4 := r4.below hDr
     replace X6 := X6.below hDr
     replace r6 := r6.below hDr
     replace VM := VM.below hDr
     replace BB := BB.trans (hDr.mono BB.size)
     clear hDr
     refine wp_region_held_drew (S := (fun w' => w'.cell? ⟨w.heap.size, 0, none⟩ = some (.int .i64 F) ∧ w'.cell? ⟨w.heap.size, 1, none⟩ = some (.slice am kk cm) ∧ w'.cell? ⟨b4, o4 + (j + 1) * 3, none⟩ = some (.bool p4) ∧ w'.cell? ⟨b4, o4 + (j + 1) * 3 + 1, none⟩ = some (.slice a4 m4 d4) ∧ w'.cell? ⟨b4, o4 + (j + 1) * 3 + 2, none⟩ = some (.slice y4 k4 e4) ∧ w'.cell? ⟨b4, o4 + j * 3, none⟩ = some (.bool p6) ∧ w'.cell? ⟨b4, o4 + j * 3 + 1, none⟩ = some (.slice a6 m6 d6) ∧ w'.cell? ⟨b4, o4 + j * 3 + 2, none⟩ = some (.slice y6 k6 e6))) (by kernel_rfl) ?_ (fun hHeld => ?_)
     ·exact ⟨VM.1, VM.2.1, X4.cells10.1, X4.cells10.2.1, X4.cells10.2.2, X6.cells10.1, X6.cells10.2.1, X6.cells10.2.2⟩
     generalize wr.drew = W32 at *
     refine wpAnyH_take (i := 0) (v := ?_) (by simp only [xL1, xL2, xL3]; rfl) (by kernel_rfl) (by kernel_rfl) (by kernel_rfl) (by exact fun _ _ _ h => h) (Or.inl ⟨by rfl, ?_⟩) (by assumption) ?_
     rotate_left
     ·(intro w hSw; (try dsimp only at hSw); go_simp; (try with_reducible rfl))
     (try simp only [Act.put, xL4, xL5, xL6])
     refine wpAnyH_take (i := 1) (v := ?_) (by simp only [xL1, xL2, xL3]; rfl) (by kernel_rfl) (by kernel_rfl) (by kernel_rfl) (by exact fun _ _ _ h => h) (Or.inl ⟨by rfl, ?_⟩) (by assumption) ?_
     rotate_left
     ·(intro w hSw; (try dsimp only at hSw); go_simp; (try with_reducible rfl))
     (try simp only [Act.put, xL4, xL5, xL6])
     refine wpAnyH_take (i := 2) (v := ?_) (by simp only [xL1, xL2, xL3]; rfl) (by kernel_rfl) (by kernel_rfl) (by kernel_rfl) (by exact fun _ _ _ h => h) (Or.inl ⟨by rfl, ?_⟩) (by assumption) ?_
     rotate_left
     ·(intro w hSw; (try dsimp only at hSw); go_simp; (try with_reducible rfl))
     (try simp only [Act.put, xL4, xL5, xL6])
     refine wpAnyH_take (i := 3) (v := ?_) (by simp only [xL1, xL2, xL3]; rfl) (by kernel_rfl) (by kernel_rfl) (by kernel_rfl) (by exact fun _ _ _ h => h) (Or.inl ⟨by rfl, ?_⟩) (by assumption) ?_
     rotate_left
     ·(intro w hSw; (try dsimp only at hSw); go_simp; (try with_reducible rfl))
     (try simp only [Act.put, xL4, xL5, xL6])
     refine wpAnyH_ready (rs := [4]) (by kernel_rfl) (by simp) ?_
     refine AllReadyH.cons (by simp only [xL1, xL2, xL3]; rfl) (fun K hK => ?_) AllReadyH.nil
     go_simp
     refine (qright_rep _ _ _ r4 (Nat.le_trans HZ.out (by omega)) ht).mono ?_
     rintro e w10 ⟨rfl, b10⟩
     go_wp2_with fail
     replace ht := ht.below b10
     replace MR := MR.below b10
     replace X4 := X4.below b10
     replace r4 := r4.below b10
     replace X6 := X6.below b10
     replace r6 := r6.below b10
     replace VM := VM.below b10
     replace BB := BB.trans (b10.mono BB.size)
     clear b10
     refine hK.out _ _ ?_ (fun hH1 => ?_)
     ·exact ⟨VM.1, VM.2.1, X4.cells10.1, X4.cells10.2.1, X4.cells10.2.2, X6.cells10.1, X6.cells10.2.1, X6.cells10.2.2⟩
     clear hK K hHeld
     (try simp only [Act.put, xL4, xL5, xL6])
     refine wpAnyH_take (i := 5) (v := ?_) (by simp only [xL1, xL2, xL3]; rfl) (by kernel_rfl) (by kernel_rfl) (by kernel_rfl) (by exact fun _ _ _ h => h) (Or.inl ⟨by rfl, ?_⟩) (by assumption) ?_
     rotate_left
     ·(intro w hSw; (try dsimp only at hSw); go_simp; (try with_reducible rfl))
     (try simp only [Act.put, xL4, xL5, xL6])
     refine wpAnyH_take (i := 6) (v := ?_) (by simp only [xL1, xL2, xL3]; rfl) (by kernel_rfl) (by kernel_rfl) (by kernel_rfl) (by exact fun _ _ _ h => h) (Or.inl ⟨by rfl, ?_⟩) (by assumption) ?_
     rotate_left
     ·(intro w hSw; (try dsimp only at hSw); go_simp; (try with_reducible rfl))
     (try simp only [Act.put, xL4, xL5, xL6])
     refine wpAnyH_take (i := 7) (v := ?_) (by simp only [xL1, xL2, xL3]; rfl) (by kernel_rfl) (by kernel_rfl) (by kernel_rfl) (by exact fun _ _ _ h => h) (Or.inl ⟨by rfl, ?_⟩) (by assumption) ?_
     rotate_left
     ·(intro w hSw; (try dsimp only at hSw); go_simp; (try with_reducible rfl))
     (try simp only [Act.put, xL4, xL5, xL6])
     refine wpAnyH_take (i := 8) (v := ?_) (by simp only [xL1, xL2, xL3]; rfl) (by kernel_rfl) (by kernel_rfl) (by kernel_rfl) (by exact fun _ _ _ h => h) (Or.inl ⟨by rfl, ?_⟩) (by assumption) ?_
     rotate_left
     ·(intro w hSw; (try dsimp only at hSw); go_simp; (try with_reducible rfl))
     (try simp only [Act.put, xL4, xL5, xL6])
     refine wpAnyH_take (i := 9) (v := ?_) (by simp only [xL1, xL2, xL3]; rfl) (by kernel_rfl) (by kernel_rfl) (by kernel_rfl) (by exact fun _ _ _ h => h) (Or.inl ⟨by rfl, ?_⟩) (by assumption) ?_
     rotate_left
     ·(intro w hSw; (try dsimp only at hSw); go_simp; (try with_reducible rfl))
     (try simp only [Act.put, xL4, xL5, xL6])
     refine wpAnyH_take (i := 10) (v := ?_) (by simp only [xL1, xL2, xL3]; rfl) (by kernel_rfl) (by kernel_rfl) (by kernel_rfl) (by exact fun _ _ _ h => h) (Or.inl ⟨by rfl, ?_⟩) (by assumption) ?_
     rotate_left
     ·(intro w hSw; (try dsimp only at hSw); go_simp; (try with_reducible rfl))
     (try simp only [Act.put, xL4, xL5, xL6])
     refine wpAnyH_take (i := 11) (v := ?_) (by simp only [xL1, xL2, xL3]; rfl) (by kernel_rfl) (by kernel_rfl) (by kernel_rfl) (by exact fun _ _ _ h => h) (Or.inl ⟨by rfl, ?_⟩) (by assumption) ?_
     rotate_left
     ·(intro w hSw; (try dsimp only at hSw); go_simp; (try with_reducible rfl))
     (try simp only [Act.put, xL4, xL5, xL6])
     refine wpAnyH_take (i := 12) (v := ?_) (by simp only [xL1, xL2, xL3]; rfl) (by kernel_rfl) (by kernel_rfl) (by kernel_rfl) (by exact fun _ _ _ h => h) (Or.inl ⟨by rfl, ?_⟩) (by assumption) ?_
     rotate_left
     ·(intro w hSw; (try dsimp only at hSw); go_simp; (try with_reducible rfl))
     (try simp only [Act.put, xL4, xL5, xL6])
     refine wpAnyH_take (i := 13) (v := ?_) (by simp only [xL1, xL2, xL3]; rfl) (by kernel_rfl) (by kernel_rfl) (by kernel_rfl) (by exact fun _ _ _ h => h) (Or.inl ⟨by rfl, ?_⟩) (by assumption) ?_
     rotate_left
     ·(intro w hSw; (try dsimp only at hSw); go_simp; (try with_reducible rfl))
     (try simp only [Act.put, xL4, xL5, xL6])
     refine wpAnyH_take (i := 14) (v := ?_) (by simp only [xL1, xL2, xL3]; rfl) (by kernel_rfl) (by kernel_rfl) (by kernel_rfl) (by exact fun _ _ _ h => h) (Or.inl ⟨by rfl, ?_⟩) (by assumption) ?_
     rotate_left
     ·(intro w hSw; (try dsimp only at hSw); go_simp; (try with_reducible rfl))
     (try simp only [Act.put, xL4, xL5, xL6])
     refine wpAnyH_take (i := 15) (v := ?_) (by simp only [xL1, xL2, xL3]; rfl) (by kernel_rfl) (by kernel_rfl) (by kernel_rfl) (by exact fun _ _ _ h => h) (Or.inl ⟨by rfl, ?_⟩) (by assumption) ?_
     rotate_left
     ·(intro w hSw; (try dsimp only at hSw); go_simp; (try with_reducible rfl))
     (try simp only [Act.put, xL4, xL5, xL6])
     refine wpAnyH_take (i := 16) (v := ?_) (by simp only [xL1, xL2, xL3]; rfl) (by kernel_rfl) (by kernel_rfl) (by kernel_rfl) (by exact fun _ _ _ h => h) (Or.inl ⟨by rfl, ?_⟩) (by assumption) ?_
     rotate_left
     ·(intro w hSw; (try dsimp only at hSw); go_simp; (try with_reducible rfl))
     (try simp only [Act.put, xL4, xL5, xL6])
     refine wpAnyH_take (i := 17) (v := ?_) (by simp only [xL1, xL2, xL3]; rfl) (by kernel_rfl) (by kernel_rfl) (by kernel_rfl) (by exact fun _ _ _ h => h) (Or.inl ⟨by rfl, ?_⟩) (by assumption) ?_
     rotate_left
     ·(intro w hSw; (try dsimp only at hSw); go_simp; (try with_reducible rfl))
     (try simp only [Act.put, xL4, xL5, xL6])
     refine wpAnyH_take (i := 18) (v := ?_) (by simp only [xL1, xL2, xL3]; rfl) (by kernel_rfl) (by kernel_rfl) (by kernel_rfl) (by exact fun _ _ _ h => h) (Or.inl ⟨by rfl, ?_⟩) (by assumption) ?_
     rotate_left
     ·(intro w hSw; (try dsimp only at hSw); go_simp; (try with_reducible rfl))
     (try simp only [Act.put, xL4, xL5, xL6])
     refine wpAnyH_ready (rs := [19]) (by kernel_rfl) (by simp) ?_
     refine AllReadyH.cons (by simp only [xL1, xL2, xL3]; rfl) (fun K hK => ?_) AllReadyH.nil
     go_simp
     refine (qcmp_at _ _ (q j) (q (j + 1)) 4 _ (r6.at _ HZ6.out) (r4.at _ HZ.out) (by omega) (by omega)).mono ?_
     rintro e w11 ⟨rfl, b11⟩
     rw [HLT.out]
     go_wp2_with fail
     replace ht := ht.below b11
     replace MR := MR.below b11
     replace X4 := X4.below b11
     replace r4 := r4.below b11
     replace X6 := X6.below b11
     replace r6 := r6.below b11
     replace VM := VM.below b11
     replace BB := BB.trans (b11.mono BB.size)
     clear b11
     refine hK.out _ _ ?_ (fun hH2 => ?_)
     ·exact ⟨VM.1, VM.2.1, X4.cells10.1, X4.cells10.2.1, X4.cells10.2.2, X6.cells10.1, X6.cells10.2.1, X6.cells10.2.2⟩
     clear hK K hH1
     (try simp only [Act.put, xL4, xL5, xL6])
     refine wpAnyH_take (i := 20) (v := ?_) (by simp only [xL1, xL2, xL3]; rfl) (by kernel_rfl) (by kernel_rfl) (by kernel_rfl) (by exact fun _ _ _ h => h) (Or.inl ⟨by rfl, ?_⟩) (by assumption) ?_
     rotate_left
     ·(intro w hSw; (try dsimp only at hSw); go_simp; (try with_reducible rfl))
     (try simp only [Act.put, xL4, xL5, xL6])
     refine wpAnyH_take (i := 21) (v := ?_) (by simp only [xL1, xL2, xL3]; rfl) (by kernel_rfl) (by kernel_rfl) (by kernel_rfl) (by exact fun _ _ _ h => h) (Or.inl ⟨by rfl, ?_⟩) (by assumption) ?_
     rotate_left
     ·(intro w hSw; (try dsimp only at hSw); go_simp; (try with_reducible rfl))
     (try simp only [Act.put, xL4, xL5, xL6])
     refine wpAnyH_take (i := 22) (v := ?_) (by simp only [xL1, xL2, xL3]; rfl) (by kernel_rfl) (by kernel_rfl) (by kernel_rfl) (by exact fun _ _ _ h => h) (Or.inl ⟨by rfl, ?_⟩) (by assumption) ?_
     rotate_left
     ·(intro w hSw; (try dsimp only at hSw); go_simp; (try with_reducible rfl))
     (try simp only [Act.put, xL4, xL5, xL6])
     refine wpAnyH_take (i := 23) (v := ?_) (by simp only [xL1, xL2, xL3]; rfl) (by kernel_rfl) (by kernel_rfl) (by kernel_rfl) (by exact fun _ _ _ h => h) (Or.inl ⟨by rfl, ?_⟩) (by assumption) ?_
     rotate_left
     ·(intro w hSw; (try dsimp only at hSw); go_simp; (try with_reducible rfl))
     (try simp only [Act.put, xL4, xL5, xL6])
     refine wpAnyH_take (i := 24) (v := ?_) (by simp only [xL1, xL2, xL3]; rfl) (by kernel_rfl) (by kernel_rfl) (by kernel_rfl) (by exact fun _ _ _ h => h) (Or.inl ⟨by rfl, ?_⟩) (by assumption) ?_
     rotate_left
     ·(intro w hSw; (try dsimp only at hSw); go_simp; (try with_reducible rfl))
     (try simp only [Act.put, xL4, xL5, xL6])
     refine wpAnyH_take (i := 25) (v := ?_) (by simp only [xL1, xL2, xL3]; rfl) (by kernel_rfl) (by kernel_rfl) (by kernel_rfl) (by exact fun _ _ _ h => h) (Or.inl ⟨by rfl, ?_⟩) (by assumption) ?_
     rotate_left
     ·(intro w hSw; (try dsimp only at hSw); go_simp; (try with_reducible rfl))
     (try simp only [Act.put, xL4, xL5, xL6])
     refine wpAnyH_take (i := 26) (v := ?_) (by simp only [xL1, xL2, xL3]; rfl) (by kernel_rfl) (by kernel_rfl) (by kernel_rfl) (by exact fun _ _ _ h => h) (Or.inl ⟨by rfl, ?_⟩) (by assumption) ?_
     rotate_left
     ·(intro w hSw; (try dsimp only at hSw); go_simp; (try with_reducible rfl))
     (try simp only [Act.put, xL4, xL5, xL6])
     refine wpAnyH_take (i := 27) (v := ?_) (by simp only [xL1, xL2, xL3]; rfl) (by kernel_rfl) (by kernel_rfl) (by kernel_rfl) (by exact fun _ _ _ h => h) (Or.inl ⟨by rfl, ?_⟩) (by assumption) ?_
     rotate_left
     ·(intro w hSw; (try dsimp only at hSw); go_simp; (try with_reducible rfl))
     (try simp only [Act.put, xL4, xL5, xL6])
     refine wpAnyH_take (i := 28) (v := ?_) (by simp only [xL1, xL2, xL3]; rfl) (by kernel_rfl) (by kernel_rfl) (by kernel_rfl) (by exact fun _ _ _ h => h) (Or.inl ⟨by rfl, ?_⟩) (by assumption) ?_
     rotate_left
     ·(intro w hSw; (try dsimp only at hSw); go_simp; (try with_reducible rfl))
     (try simp only [Act.put, xL4, xL5, xL6])
     refine wpAnyH_take (i := 29) (v := ?_) (by simp only [xL1, xL2, xL3]; rfl) (by kernel_rfl) (by kernel_rfl) (by kernel_rfl) (by exact fun _ _ _ h => h) (Or.inl ⟨by rfl, ?_⟩) (by assumption) ?_
     rotate_left
     ·(intro w hSw; (try dsimp only at hSw); go_simp; (try with_reducible rfl))
     (try simp only [Act.put, xL4, xL5, xL6])
     refine wpAnyH_ready (rs := [30]) (by kernel_rfl) (by simp) ?_
     refine AllReadyH.cons (by simp only [xL1, xL2, xL3]; rfl) (fun K hK => ?_) AllReadyH.nil
     go_simp
     refine (asked10_at F f _ _ kk NN T (q (j + 1)) 4 _ MR (r4.at _ HZ.out) (by omega) (by omega) (by omega) HN5.out HAS.out).mono ?_
     rintro e w12 ⟨rfl, b12⟩
     go_wp2_with fail
     replace ht := ht.below b12
     replace MR := MR.below b12
     replace X4 := X4.below b12
     replace r4 := r4.below b12
     replace X6 := X6.below b12
     replace r6 := r6.below b12
     replace VM := VM.below b12
     replace BB := BB.trans (b12.mono BB.size)
     clear b12
     refine hK.out _ _ ?_ (fun hH3 => ?_)
     ·exact ⟨VM.1, VM.2.1, X4.cells10.1, X4.cells10.2.1, X4.cells10.2.2, X6.cells10.1, X6.cells10.2.1, X6.cells10.2.2⟩
     clear hK K hH2
     (try simp only [Act.put, xL4, xL5, xL6])
     refine wpAnyH_take (i := 31) (v := ?_) (by simp only [xL1, xL2, xL3]; rfl) (by kernel_rfl) (by kernel_rfl) (by kernel_rfl) (by exact fun _ _ _ h => h) (Or.inl ⟨by rfl, ?_⟩) (by assumption) ?_
     rotate_left
     ·(intro w hSw; (try dsimp only at hSw); go_simp; (try with_reducible rfl))
     (try simp only [Act.put, xL4, xL5, xL6])
     refine wpAnyH_take (i := 32) (v := ?_) (by simp only [xL1, xL2, xL3]; rfl) (by kernel_rfl) (by kernel_rfl) (by kernel_rfl) (by exact fun _ _ _ h => h) (Or.inl ⟨by rfl, ?_⟩) (by assumption) ?_
     rotate_left
     ·(intro w hSw; (try dsimp only at hSw); go_simp; (try with_reducible rfl))
     (try simp only [Act.put, xL4, xL5, xL6])
     refine wpAnyH_done (by kernel_rfl) ?_ _
     clear hH3
     go_wp2
     go_roundw
     case rel => exact ⟨j + 1 + 1, by omega, by go_num, BB⟩
     case measure => simp [intOf]; omega
   ·obtain rfl : i = n := by omega
    have g1_ : ¬ (i : Int) < (i : Int) := by omega
    have VMx := VM0.out.below BB
    obtain ⟨M_0, M_1, M_2, M_3⟩ := id VMx
    go_wp2
    clear M_0 M_1 M_2 M_3 VMx
    go_loopw [11] (fun vi w2 => ∃ a : Nat, a ≤ kk ∧ vi = .int .i64 (a : Int) ∧ Below w8.heap.size w8 w2) (fun vi _ => kk - (intOf vi).toNat)
    case atStart => exact ⟨0, by omega, rfl, BB⟩
    case round =>
     clear BB
     obtain ⟨a, ha, rfl, BB⟩ := hrel
     have VM := VM0.out.below BB
     obtain ⟨M_0, M_1, M_2, M_3⟩ := id VM
     have wa : IntKind.i64.wrap ((a : Int) + 1) = (a : Int) + 1 := by rw [IntKind.wrap_i64]; omega
     by_cases hak : a < kk
     ·have h1 : (a : Int) < (kk : Int) := by omega
      have h0 : (0 : Int) ≤ (a : Int) := by omega
      obtain ⟨b, off, cc, aT, dT, hvv, hcc, XC0, TR0⟩ := MR0.out.at hak
      cases hvv
      have HXC : Hid (w8.cell? ⟨b, off + a, none⟩ = some (.slice aT (NN a) dT)) := XC0
      have HTR : Hid (TRow w8 (.slice aT (NN a) dT) (NN a) (T a) 4) := TR0
      have hN255 : NN a ≤ 255 := HN5.out a hak
      clear XC0 TR0
      go_wp2
      clear M_0 M_1 M_2 M_3 VM
      go_loopw [12] (fun vj w2 => ∃ j : Nat, j ≤ NN a ∧ vj = .int .i64 (j : Int) ∧ Below w8.heap.size w8 w2) (fun vj _ => NN a - (intOf vj).toNat)
      case atStart => exact ⟨0, by omega, rfl, BB⟩
      case round =>
       clear BB
       obtain ⟨j, hj, rfl, BB⟩ := hrel
       have VM := VM0.out.below BB
       obtain ⟨M_0, M_1, M_2, M_3⟩ := id VM
       have XC : wr.cell? ⟨b, off + a, none⟩ = some (.slice aT (NN a) dT) := (BB.cell (p := ⟨b, off + a, none⟩) (World.block_lt_of_cell? _ _ HXC.out)).trans HXC.out
       have wj : IntKind.i64.wrap ((j : Int) + 1) = (j : Int) + 1 := by rw [IntKind.wrap_i64]; omega
       by_cases hjt : j < NN a
       ·have f1 : (j : Int) < (NN a : Int) := by omega
        have f0 : (0 : Int) ≤ (j : Int) := by omega
        obtain ⟨b9, off9, cc9, p1, a1, n1, c1, b1, m1, d1, p2, a2, n2_, c2, b2, m2, d2, p3, a3, n3, c3, b3, m3, d3, hvv, hcc9, hc6, ND, r1, r2, r3, i1, i2, i3⟩ := (HTR.out.below BB).at hjt
        cases hvv
        obtain ⟨lf, hlf⟩ : ∃ z, (T a j).leaf = z := ⟨_, rfl⟩
        obtain ⟨ft, hft⟩ : ∃ z, (T a j).feat = z := ⟨_, rfl⟩
        have HLF : Hid ((T a j).leaf = lf ∧ (T a j).feat = ft) := ⟨hlf, hft⟩
        rw [hlf, hft] at ND
        clear hlf hft r2 r3 i1 i2 i3
        obtain ⟨N_0, N_1, N_2, N_3, N_4, N_5, N_6, N_7, N_8, N_9, N_10, N_11, N_12, N_13⟩ := id ND
        obtain ⟨W8, hW8, hS8, hL8, VN, FN⟩ := V14.lay wr 67 (.bool lf) (.int .i64 ft) (.bool p1) (.slice a1 n1 c1) (.slice b1 m1 d1) (.int .i64 (T a j).left) (.int .i64 (T a j).right) (.bool (T a j).miss) (.bool p2) (.slice a2 n2_ c2) (.slice b2 m2 d2) (.bool p3) (.slice a3 n3 c3) (.slice b3 m3 d3)
        replace r1 := r1.below hL8
        replace BB := BB.trans (hL8.mono BB.size)
        clear hL8 FN ND
        obtain ⟨V_0, V_1, V_2, V_3, V_4, V_5, V_6, V_7, V_8, V_9, V_10, V_11, V_12, V_13⟩ := id VN
        rw [hW8] at V_0 V_1 V_2 V_3 V_4 V_5 V_6 V_7 V_8 V_9 V_10 V_11 V_12 V_13
        by_cases hask : lf = false ∧ ft = f
        ·obtain ⟨rfl, rfl⟩ := hask
         have FLx := FL0.out.below BB
         have HHS : Hid (∃ i_, i_ < i ∧ q i_ = (T a j).cut) := HCI.out.all a j (.inl hak) hjt HLF.out
         go_wp2_with fail
         clear V_0 V_1 V_2 V_3 V_4 V_5 V_6 V_7 V_8 V_9 V_10 V_11 V_12 V_13 N_0 N_1 N_2 N_3 N_4 N_5 N_6 N_7 N_8 N_9 N_10 N_11 N_12 N_13 M_0 M_1 M_2 M_3 XC VM
         rw [← hW8]
         clear hW8 hS8 VN
         refine (has10_at _ _ i q (T a j).cut 4 _ FLx HCI.out.sz r1 (by omega) (by omega) (by omega) HHS.out).mono ?_
         rintro e w9 ⟨rfl, b9⟩
         replace BB := BB.trans (b9.mono BB.size)
         clear b9 FLx r1
         go_wp2
         go_roundw
         case rel => exact ⟨j + 1, by omega, by go_num, BB⟩
         case measure => simp [intOf]; omega
        ·cases lf
         ·have hft : ¬ ft = f := fun e => hask ⟨rfl, e⟩
          have g5 : decide (ft = f) = false := decide_eq_false hft
          have g6 : (ft == f) = false := by simpa using hft
          clear hask
          go_wp2
          clear V_0 V_1 V_2 V_3 V_4 V_5 V_6 V_7 V_8 V_9 V_10 V_11 V_12 V_13 N_0 N_1 N_2 N_3 N_4 N_5 N_6 N_7 N_8 N_9 N_10 N_11 N_12 N_13
          rw [← hW8]
          go_roundw
          case rel => exact ⟨j + 1, by omega, by go_num, BB⟩
          case measure => simp [intOf]; omega
         ·clear hask
          go_wp2
          clear V_0 V_1 V_2 V_3 V_4 V_5 V_6 V_7 V_8 V_9 V_10 V_11 V_12 V_13 N_0 N_1 N_2 N_3 N_4 N_5 N_6 N_7 N_8 N_9 N_10 N_11 N_12 N_13
          rw [← hW8]
          go_roundw
          case rel => exact ⟨j + 1, by omega, by go_num, BB⟩
          case measure => simp [intOf]; omega
       ·obtain rfl : j = NN a := by omega
        have f1 : ¬ (NN a : Int) < (NN a : Int) := by omega
        go_wp2
        go_roundw
        case rel => exact ⟨a + 1, by omega, by go_num, BB⟩
        case measure => simp [intOf]; omega
     ·obtain rfl : a = kk := by omega
      have h1 : ¬ (a : Int) < (a : Int) := by omega
      have ht := ht0.out.below BB
      have FL := FL0.out.below BB
      have FS := FS0.out.below BB
      clear wa
      by_cases hn0 : i = 0
      ·subst hn0
       have g4 : ((0 : Nat) : Int) = 0 := rfl
       obtain ⟨b4, o4, c4, p4, a4, m4, d4, y4, k4, e4, hv4, hc4, X4, r4⟩ := FS.at 0 (by omega)
       cases hv4
       have r4 : RepQ wr _ (0 : Rat) := r4
       simp only [Nat.zero_mul, Nat.add_zero] at X4
       go_wp2
       clear M_0 M_1 M_2 M_3 VM
       have hDr : Below wr.heap.size wr wr.drew := (Below.refl _ _).drew
       replace ht := ht.below hDr
       replace X4 := X4.below hDr
       replace r4 := r4.below hDr
       replace BB := BB.trans (hDr.mono BB.size)
       clear hDr
       refine wp_region_held_drew (S := (fun w' => w'.cell? ⟨b4, o4, none⟩ = some (.bool p4) ∧ w'.cell? ⟨b4, o4 + 1, none⟩ = some (.slice a4 m4 d4) ∧ w'.cell? ⟨b4, o4 + 2, none⟩ = some (.slice y4 k4 e4))) (by kernel_rfl) ?_ (fun hHeld => ?_)
       ·exact ⟨X4.cells10.1, X4.cells10.2.1, X4.cells10.2.2⟩
       generalize wr.drew = W91 at *
       refine wpAnyH_take (i := 0) (v := ?_) (by simp only [xL1, xL2, xL3]; rfl) (by kernel_rfl) (by kernel_rfl) (by kernel_rfl) (by exact fun _ _ _ h => h) (Or.inl ⟨by rfl, ?_⟩) (by assumption) ?_
       rotate_left
       ·(intro w hSw; (try dsimp only at hSw); go_simp; (try with_reducible rfl))
       (try simp only [Act.put, xL4, xL5, xL6])
       refine wpAnyH_take (i := 1) (v := ?_) (by simp only [xL1, xL2, xL3]; rfl) (by kernel_rfl) (by kernel_rfl) (by kernel_rfl) (by exact fun _ _ _ h => h) (Or.inl ⟨by rfl, ?_⟩) (by assumption) ?_
       rotate_left
       ·(intro w hSw; (try dsimp only at hSw); go_simp; (try with_reducible rfl))
       (try simp only [Act.put, xL4, xL5, xL6])
       refine wpAnyH_take (i := 2) (v := ?_) (by simp only [xL1, xL2, xL3]; rfl) (by kernel_rfl) (by kernel_rfl) (by kernel_rfl) (by exact fun _ _ _ h => h) (Or.inl ⟨by rfl, ?_⟩) (by assumption) ?_
       rotate_left
       ·(intro w hSw; (try dsimp only at hSw); go_simp; (try with_reducible rfl))
       (try simp only [Act.put, xL4, xL5, xL6])
       refine wpAnyH_take (i := 3) (v := ?_) (by simp only [xL1, xL2, xL3]; rfl) (by kernel_rfl) (by kernel_rfl) (by kernel_rfl) (by exact fun _ _ _ h => h) (Or.inl ⟨by rfl, ?_⟩) (by assumption) ?_
       rotate_left
       ·(intro w hSw; (try dsimp only at hSw); go_simp; (try with_reducible rfl))
       (try simp only [Act.put, xL4, xL5, xL6])
       refine wpAnyH_take (i := 4) (v := ?_) (by simp only [xL1, xL2, xL3]; rfl) (by kernel_rfl) (by kernel_rfl) (by kernel_rfl) (by exact fun _ _ _ h => h) (Or.inl ⟨by rfl, ?_⟩) (by assumption) ?_
       rotate_left
       ·(intro w hSw; (try dsimp only at hSw); go_simp; (try with_reducible rfl))
       (try simp only [Act.put, xL4, xL5, xL6])
       refine wpAnyH_take (i := 5) (v := ?_) (by simp only [xL1, xL2, xL3]; rfl) (by kernel_rfl) (by kernel_rfl) (by kernel_rfl) (by exact fun _ _ _ h => h) (Or.inl ⟨by rfl, ?_⟩) (by assumption) ?_
       rotate_left
       ·(intro w hSw; (try dsimp only at hSw); go_simp; (try with_reducible rfl))
       (try simp only [Act.put, xL4, xL5, xL6])
       refine wpAnyH_take (i := 6) (v := ?_) (by simp only [xL1, xL2, xL3]; rfl) (by kernel_rfl) (by kernel_rfl) (by kernel_rfl) (by exact fun _ _ _ h => h) (Or.inl ⟨by rfl, ?_⟩) (by assumption) ?_
       rotate_left
       ·(intro w hSw; (try dsimp only at hSw); go_simp; (try with_reducible rfl))
       (try simp only [Act.put, xL4, xL5, xL6])
       refine wpAnyH_ready (rs := [7]) (by kernel_rfl) (by simp) ?_
       refine AllReadyH.cons (by simp only [xL1, xL2, xL3]; rfl) (fun K hK => ?_) AllReadyH.nil
       go_simp
       refine (qzero_at _).mono ?_
       rintro e w69 ⟨v7, rfl, h7, b69⟩
       obtain ⟨p7, a7, n7, c7, y7, m7, d7, rfl⟩ := h7.open
       go_wp2_with fail
       replace ht := ht.below b69
       replace X4 := X4.below b69
       replace r4 := r4.below b69
       replace BB := BB.trans (b69.mono BB.size)
       clear b69
       refine hK.out _ _ ?_ (fun hH1 => ?_)
       ·exact ⟨X4.cells10.1, X4.cells10.2.1, X4.cells10.2.2⟩
       clear hK K hHeld
       (try simp only [Act.put, xL4, xL5, xL6])
       refine wpAnyH_ready (rs := [8]) (by kernel_rfl) (by simp) ?_
       refine AllReadyH.cons (by simp only [xL1, xL2, xL3]; rfl) (fun K hK => ?_) AllReadyH.nil
       go_simp
       refine (is10_at _ _ 0 2 2 _ r4 zero_sz (h7.at 2 zero_sz) (by omega) (by omega)).mono ?_
       rintro e w70 ⟨rfl, b70⟩
       go_wp2_with fail
       replace ht := ht.below b70
       replace X4 := X4.below b70
       replace r4 := r4.below b70
       replace h7 := h7.below b70
       replace BB := BB.trans (b70.mono BB.size)
       clear b70
       refine hK.out _ _ ?_ (fun hH2 => ?_)
       ·exact ⟨X4.cells10.1, X4.cells10.2.1, X4.cells10.2.2⟩
       clear hK K hH1
       (try simp only [Act.put, xL4, xL5, xL6])
       refine wpAnyH_take (i := 9) (v := ?_) (by simp only [xL1, xL2, xL3]; rfl) (by kernel_rfl) (by kernel_rfl) (by kernel_rfl) (by exact fun _ _ _ h => h) (Or.inl ⟨by rfl, ?_⟩) (by assumption) ?_
       rotate_left
       ·(intro w hSw; (try dsimp only at hSw); go_simp; (try with_reducible rfl))
       (try simp only [Act.put, xL4, xL5, xL6])
       refine wpAnyH_take (i := 10) (v := ?_) (by simp only [xL1, xL2, xL3]; rfl) (by kernel_rfl) (by kernel_rfl) (by kernel_rfl) (by exact fun _ _ _ h => h) (Or.inl ⟨by rfl, ?_⟩) (by assumption) ?_
       rotate_left
       ·(intro w hSw; (try dsimp only at hSw); go_simp; (try with_reducible rfl))
       (try simp only [Act.put, xL4, xL5, xL6])
       refine wpAnyH_ready (rs := [11]) (by kernel_rfl) (by simp) ?_
       refine AllReadyH.cons (by simp only [xL1, xL2, xL3]; rfl) (fun K hK => ?_) AllReadyH.nil
       go_simp
       refine (awake10_at _ ht).mono ?_
       rintro e w71 ⟨rfl, b71⟩
       go_wp2_with fail
       replace ht := ht.below b71
       replace X4 := X4.below b71
       replace r4 := r4.below b71
       replace h7 := h7.below b71
       replace BB := BB.trans (b71.mono BB.size)
       clear b71
       refine hK.out _ _ ?_ (fun hH3 => ?_)
       ·exact ⟨X4.cells10.1, X4.cells10.2.1, X4.cells10.2.2⟩
       clear hK K hH2
       (try simp only [Act.put, xL4, xL5, xL6])
       refine wpAnyH_take (i := 12) (v := ?_) (by simp only [xL1, xL2, xL3]; rfl) (by kernel_rfl) (by kernel_rfl) (by kernel_rfl) (by exact fun _ _ _ h => h) (Or.inl ⟨by rfl, ?_⟩) (by assumption) ?_
       rotate_left
       ·(intro w hSw; (try dsimp only at hSw); go_simp; (try with_reducible rfl))
       (try simp only [Act.put, xL4, xL5, xL6])
       refine wpAnyH_take (i := 13) (v := ?_) (by simp only [xL1, xL2, xL3]; rfl) (by kernel_rfl) (by kernel_rfl) (by kernel_rfl) (by exact fun _ _ _ h => h) (Or.inl ⟨by rfl, ?_⟩) (by assumption) ?_
       rotate_left
       ·(intro w hSw; (try dsimp only at hSw); go_simp; (try with_reducible rfl))
       (try simp only [Act.put, xL4, xL5, xL6])
       refine wpAnyH_done (by kernel_rfl) ?_ _
       clear hH3
       go_wp2
       go_ret
       exact ⟨rfl, BB0.out.trans (BB.mono BB0.out.size)⟩
      ·have g4 : ¬ (i : Int) = 0 := by omega
       have g5 : decide ((i : Int) = 0) = false := decide_eq_false g4
       have g6 : ((i : Int) == 0) = false := by simpa using hn0
       have hi0 : 0 < i := by omega
       have wn : IntKind.i64.wrap ((i : Int) + 1) = (i : Int) + 1 := by rw [IntKind.wrap_i64]; omega
       have q1 : (0 : Int) < (i : Int) := by omega
       have q2 : (0 : Int) < (i : Int) + 1 := by omega
       obtain ⟨b4, o4, c4, p4, a4, m4, d4, y4, k4, e4, hv4, hc4, X4, r4⟩ := FS.at 0 (by omega)
       cases hv4
       obtain ⟨b6, o6, c6, p6, a6, m6, d6, y6, k6, e6, hv6, hc6_, X6, r6⟩ := FL.at 0 hi0
       cases hv6
       simp only [Nat.zero_mul, Nat.add_zero] at X4 X6
       have r4 : RepQ wr (.agg #[.bool p4, .slice a4 m4 d4, .slice y4 k4 e4]) (q 0 - 1) := by
        have h9 : stq q i 0 = q 0 - 1 := by unfold stq; rw [if_neg hn0, if_pos rfl]
        rw [h9] at r4
        exact r4
       have HZ6 : Hid (qsz (q 0) ≤ 4) := HCI.out.sz 0 hi0
       have HZ7 : Hid (qsz (q 0 - 1) ≤ 8) := Nat.le_trans (qsz_sub _ _ HZ6.out one_sz10) (by omega)
       clear FL FS
       go_wp2
       clear M_0 M_1 M_2 M_3 VM
       have hDr : Below wr.heap.size wr wr.drew := (Below.refl _ _).drew
       replace ht := ht.below hDr
       replace X4 := X4.below hDr
       replace r4 := r4.below hDr
       replace X6 := X6.below hDr
       replace r6 := r6.below hDr
       replace BB := BB.trans (hDr.mono BB.size)
       clear hDr
       refine wp_region_held_drew (S := (fun w' => w'.cell? ⟨b4, o4, none⟩ = some (.bool p4) ∧ w'.cell? ⟨b4, o4 + 1, none⟩ = some (.slice a4 m4 d4) ∧ w'.cell? ⟨b4, o4 + 2, none⟩ = some (.slice y4 k4 e4) ∧ w'.cell? ⟨b6, o6, none⟩ = some (.bool p6) ∧ w'.cell? ⟨b6, o6 + 1, none⟩ = some (.slice a6 m6 d6) ∧ w'.cell? ⟨b6, o6 + 2, none⟩ = some (.slice y6 k6 e6))) (by kernel_rfl) ?_ (fun hHeld => ?_)
       ·exact ⟨X4.cells10.1, X4.cells10.2.1, X4.cells10.2.2, X6.cells10.1, X6.cells10.2.1, X6.cells10.2.2⟩
       generalize wr.drew = W91 at *
       refine wpAnyH_take (i := 0) (v := ?_) (by simp only [xL1, xL2, xL3]; rfl) (by kernel_rfl) (by kernel_rfl) (by kernel_rfl) (by exact fun _ _ _ h => h) (Or.inl ⟨by rfl, ?_⟩) (by assumption) ?_
       rotate_left
       ·(intro w hSw; (try dsimp only at hSw); go_simp; (try with_reducible rfl))
       (try simp only [Act.put, xL4, xL5, xL6])
       refine wpAnyH_take (i := 1) (v := ?_) (by simp only [xL1, xL2, xL3]; rfl) (by kernel_rfl) (by kernel_rfl) (by kernel_rfl) (by exact fun _ _ _ h => h) (Or.inl ⟨by rfl, ?_⟩) (by assumption) ?_
       rotate_left
       ·(intro w hSw; (try dsimp only at hSw); go_simp; (try with_reducible rfl))
       (try simp only [Act.put, xL4, xL5, xL6])
       refine wpAnyH_take (i := 2) (v := ?_) (by simp only [xL1, xL2, xL3]; rfl) (by kernel_rfl) (by kernel_rfl) (by kernel_rfl) (by exact fun _ _ _ h => h) (Or.inl ⟨by rfl, ?_⟩) (by assumption) ?_
       rotate_left
       ·(intro w hSw; (try dsimp only at hSw); go_simp; (try with_reducible rfl))
       (try simp only [Act.put, xL4, xL5, xL6])
       refine wpAnyH_take (i := 3) (v := ?_) (by simp only [xL1, xL2, xL3]; rfl) (by kernel_rfl) (by kernel_rfl) (by kernel_rfl) (by exact fun _ _ _ h => h) (Or.inl ⟨by rfl, ?_⟩) (by assumption) ?_
       rotate_left
       ·(intro w hSw; (try dsimp only at hSw); go_simp; (try with_reducible rfl))
       (try simp only [Act.put, xL4, xL5, xL6])
       refine wpAnyH_take (i := 4) (v := ?_) (by simp only [xL1, xL2, xL3]; rfl) (by kernel_rfl) (by kernel_rfl) (by kernel_rfl) (by exact fun _ _ _ h => h) (Or.inl ⟨by rfl, ?_⟩) (by assumption) ?_
       rotate_left
       ·(intro w hSw; (try dsimp only at hSw); go_simp; (try with_reducible rfl))
       (try simp only [Act.put, xL4, xL5, xL6])
       refine wpAnyH_take (i := 5) (v := ?_) (by simp only [xL1, xL2, xL3]; rfl) (by kernel_rfl) (by kernel_rfl) (by kernel_rfl) (by exact fun _ _ _ h => h) (Or.inl ⟨by rfl, ?_⟩) (by assumption) ?_
       rotate_left
       ·(intro w hSw; (try dsimp only at hSw); go_simp; (try with_reducible rfl))
       (try simp only [Act.put, xL4, xL5, xL6])
       refine wpAnyH_take (i := 6) (v := ?_) (by simp only [xL1, xL2, xL3]; rfl) (by kernel_rfl) (by kernel_rfl) (by kernel_rfl) (by exact fun _ _ _ h => h) (Or.inl ⟨by rfl, ?_⟩) (by assumption) ?_
       rotate_left
       ·(intro w hSw; (try dsimp only at hSw); go_simp; (try with_reducible rfl))
       (try simp only [Act.put, xL4, xL5, xL6])
       refine wpAnyH_take (i := 7) (v := ?_) (by simp only [xL1, xL2, xL3]; rfl) (by kernel_rfl) (by kernel_rfl) (by kernel_rfl) (by exact fun _ _ _ h => h) (Or.inl ⟨by rfl, ?_⟩) (by assumption) ?_
       rotate_left
       ·(intro w hSw; (try dsimp only at hSw); go_simp; (try with_reducible rfl))
       (try simp only [Act.put, xL4, xL5, xL6])
       refine wpAnyH_take (i := 8) (v := ?_) (by simp only [xL1, xL2, xL3]; rfl) (by kernel_rfl) (by kernel_rfl) (by kernel_rfl) (by exact fun _ _ _ h => h) (Or.inl ⟨by rfl, ?_⟩) (by assumption) ?_
       rotate_left
       ·(intro w hSw; (try dsimp only at hSw); go_simp; (try with_reducible rfl))
       (try simp only [Act.put, xL4, xL5, xL6])
       refine wpAnyH_take (i := 9) (v := ?_) (by simp only [xL1, xL2, xL3]; rfl) (by kernel_rfl) (by kernel_rfl) (by kernel_rfl) (by exact fun _ _ _ h => h) (Or.inl ⟨by rfl, ?_⟩) (by assumption) ?_
       rotate_left
       ·(intro w hSw; (try dsimp only at hSw); go_simp; (try with_reducible rfl))
       (try simp only [Act.put, xL4, xL5, xL6])
       refine wpAnyH_take (i := 10) (v := ?_) (by simp only [xL1, xL2, xL3]; rfl) (by kernel_rfl) (by kernel_rfl) (by kernel_rfl) (by exact fun _ _ _ h => h) (Or.inl ⟨by rfl, ?_⟩) (by assumption) ?_
       rotate_left
       ·(intro w hSw; (try dsimp only at hSw); go_simp; (try with_reducible rfl))
       (try simp only [Act.put, xL4, xL5, xL6])
       refine wpAnyH_take (i := 11) (v := ?_) (by simp only [xL1, xL2, xL3]; rfl) (by kernel_rfl) (by kernel_rfl) (by kernel_rfl) (by exact fun _ _ _ h => h) (Or.inl ⟨by rfl, ?_⟩) (by assumption) ?_
       rotate_left
       ·(intro w hSw; (try dsimp only at hSw); go_simp; (try with_reducible rfl))
       (try simp only [Act.put, xL4, xL5, xL6])
       refine wpAnyH_take (i := 12) (v := ?_) (by simp only [xL1, xL2, xL3]; rfl) (by kernel_rfl) (by kernel_rfl) (by kernel_rfl) (by exact fun _ _ _ h => h) (Or.inl ⟨by rfl, ?_⟩) (by assumption) ?_
       rotate_left
       ·(intro w hSw; (try dsimp only at hSw); go_simp; (try with_reducible rfl))
       (try simp only [Act.put, xL4, xL5, xL6])
       refine wpAnyH_ready (rs := [13]) (by kernel_rfl) (by simp) ?_
       refine AllReadyH.cons (by simp only [xL1, xL2, xL3]; rfl) (fun K hK => ?_) AllReadyH.nil
       go_simp
       refine (qone_at _).mono ?_
       rintro e w69 ⟨v7, rfl, h7, b69⟩
       obtain ⟨p7, a7, n7, c7, y7, m7, d7, rfl⟩ := h7.open
       go_wp2_with fail
       replace ht := ht.below b69
       replace X4 := X4.below b69
       replace r4 := r4.below b69
       replace X6 := X6.below b69
       replace r6 := r6.below b69
       replace BB := BB.trans (b69.mono BB.size)
       clear b69
       refine hK.out _ _ ?_ (fun hH1 => ?_)
       ·exact ⟨X4.cells10.1, X4.cells10.2.1, X4.cells10.2.2, X6.cells10.1, X6.cells10.2.1, X6.cells10.2.2⟩
       clear hK K hHeld
       (try simp only [Act.put, xL4, xL5, xL6])
       refine wpAnyH_ready (rs := [14]) (by kernel_rfl) (by simp) ?_
       refine AllReadyH.cons (by simp only [xL1, xL2, xL3]; rfl) (fun K hK => ?_) AllReadyH.nil
       go_simp
       refine (qsub_at _ _ (q 0) 1 8 _ (r6.at _ (Nat.le_trans HZ6.out (by omega))) (h7.at _ (Nat.le_trans one_sz10 (by omega))) (by omega) (by omega) ht).mono ?_
       rintro e w70 ⟨v8, rfl, h8, b70⟩
       obtain ⟨p8, a8, n8, c8, y8, m8, d8, rfl⟩ := h8.open
       go_wp2_with fail
       replace ht := ht.below b70
       replace X4 := X4.below b70
       replace r4 := r4.below b70
       replace X6 := X6.below b70
       replace r6 := r6.below b70
       replace h7 := h7.below b70
       replace BB := BB.trans (b70.mono BB.size)
       clear b70
       refine hK.out _ _ ?_ (fun hH2 => ?_)
       ·exact ⟨X4.cells10.1, X4.cells10.2.1, X4.cells10.2.2, X6.cells10.1, X6.cells10.2.1, X6.cells10.2.2⟩
       clear hK K hH1
       (try simp only [Act.put, xL4, xL5, xL6])
       refine wpAnyH_ready (rs := [15]) (by kernel_rfl) (by simp) ?_
       refine AllReadyH.cons (by simp only [xL1, xL2, xL3]; rfl) (fun K hK => ?_) AllReadyH.nil
       go_simp
       refine (is10_at _ _ _ 8 8 _ r4 HZ7.out (h8.at 8 HZ7.out) (by omega) (by omega)).mono ?_
       rintro e w71 ⟨rfl, b71⟩
       go_wp2_with fail
       replace ht := ht.below b71
       replace X4 := X4.below b71
       replace r4 := r4.below b71
       replace X6 := X6.below b71
       replace r6 := r6.below b71
       replace h7 := h7.below b71
       replace h8 := h8.below b71
       replace BB := BB.trans (b71.mono BB.size)
       clear b71
       refine hK.out _ _ ?_ (fun hH3 => ?_)
       ·exact ⟨X4.cells10.1, X4.cells10.2.1, X4.cells10.2.2, X6.cells10.1, X6.cells10.2.1, X6.cells10.2.2⟩
       clear hK K hH2
       (try simp only [Act.put, xL4, xL5, xL6])
       refine wpAnyH_take (i := 16) (v := ?_) (by simp only [xL1, xL2, xL3]; rfl) (by kernel_rfl) (by kernel_rfl) (by kernel_rfl) (by exact fun _ _ _ h => h) (Or.inl ⟨by rfl, ?_⟩) (by assumption) ?_
       rotate_left
       ·(intro w hSw; (try dsimp only at hSw); go_simp; (try with_reducible rfl))
       (try simp only [Act.put, xL4, xL5, xL6])
       refine wpAnyH_take (i := 17) (v := ?_) (by simp only [xL1, xL2, xL3]; rfl) (by kernel_rfl) (by kernel_rfl) (by kernel_rfl) (by exact fun _ _ _ h => h) (Or.inl ⟨by rfl, ?_⟩) (by assumption) ?_
       rotate_left
       ·(intro w hSw; (try dsimp only at hSw); go_simp; (try with_reducible rfl))
       (try simp only [Act.put, xL4, xL5, xL6])
       refine wpAnyH_done (by kernel_rfl) ?_ _
       clear hH3
       clear h7 h8 X4 X6 r4 r6
       go_wp2
       clear ht
       go_loopw [14] (fun vi w2 => ∃ j : Nat, j ≤ i ∧ vi = .int .i64 (j : Int) ∧ Below w8.heap.size w8 w2) (fun vi _ => i - (intOf vi).toNat)
       case atStart => exact ⟨0, by omega, rfl, BB⟩
       case round =>
        clear BB
        obtain ⟨j, hj, rfl, BB⟩ := hrel
        by_cases hjt : j < i
        ·have f0 : (0 : Int) ≤ (j : Int) := by omega
         have f1 : (j : Int) < (i : Int) := by omega
         have f2 : (0 : Int) ≤ (j : Int) + 1 := by omega
         have f3 : (j : Int) + 1 < (i : Int) + 1 := by omega
         have wj : IntKind.i64.wrap ((j : Int) + 1) = (j : Int) + 1 := by rw [IntKind.wrap_i64]; omega
         obtain ⟨b7, o7, c7_, p4, a4, m4, d4, y4, k4, e4, hv4, hc4, X4, r4⟩ := (FS0.out.below BB).at (j + 1) (by omega)
         cases hv4
         obtain ⟨b8, o8, c8_, p6, a6, m6, d6, y6, k6, e6, hv6, hc6_, X6, r6⟩ := (FL0.out.below BB).at j hjt
         cases hv6
         have r4 : RepQ wr (.agg #[.bool p4, .slice a4 m4 d4, .slice y4 k4 e4]) (q j) := by
          have h9 : stq q i (j + 1) = q j := by unfold stq; rw [if_neg hn0, if_neg (by omega)]; rfl
          rw [h9] at r4
          exact r4
         have HZ6 : Hid (qsz (q j) ≤ 4) := HCI.out.sz j hjt
         go_wp2
         have hDr : Below wr.heap.size wr wr.drew := (Below.refl _ _).drew
         replace X4 := X4.below hDr
         replace r4 := r4.below hDr
         replace X6 := X6.below hDr
         replace r6 := r6.below hDr
         replace BB := BB.trans (hDr.mono BB.size)
         clear hDr
         refine wp_region_held_drew (S := (fun w' => w'.cell? ⟨b4, o4 + (j + 1) * 3, none⟩ = some (.bool p4) ∧ w'.cell? ⟨b4, o4 + (j + 1) * 3 + 1, none⟩ = some (.slice a4 m4 d4) ∧ w'.cell? ⟨b4, o4 + (j + 1) * 3 + 2, none⟩ = some (.slice y4 k4 e4) ∧ w'.cell? ⟨b6, o6 + j * 3, none⟩ = some (.bool p6) ∧ w'.cell? ⟨b6, o6 + j * 3 + 1, none⟩ = some (.slice a6 m6 d6) ∧ w'.cell? ⟨b6, o6 + j * 3 + 2, none⟩ = some (.slice y6 k6 e6))) (by kernel_rfl) ?_ (fun hHeld => ?_)
         ·exact ⟨X4.cells10.1, X4.cells10.2.1, X4.cells10.2.2, X6.cells10.1, X6.cells10.2.1, X6.cells10.2.2⟩
         generalize wr.drew = W121 at *
         refine wpAnyH_take (i := 0) (v := ?_) (by simp only [xL1, xL2, xL3]; rfl) (by kernel_rfl) (by kernel_rfl) (by kernel_rfl) (by exact fun _ _ _ h => h) (Or.inl ⟨by rfl, ?_⟩) (by assumption) ?_
         rotate_left
         ·(intro w hSw; (try dsimp only at hSw); go_simp; (try with_reducible rfl))
         (try simp only [Act.put, xL4, xL5, xL6])
         refine wpAnyH_take (i := 1) (v := ?_) (by simp only [xL1, xL2, xL3]; rfl) (by kernel_rfl) (by kernel_rfl) (by kernel_rfl) (by exact fun _ _ _ h => h) (Or.inl ⟨by rfl, ?_⟩) (by assumption) ?_
         rotate_left
         ·(intro w hSw; (try dsimp only at hSw); go_simp; (try with_reducible rfl))
         (try simp only [Act.put, xL4, xL5, xL6])
         refine wpAnyH_take (i := 2) (v := ?_) (by simp only [xL1, xL2, xL3]; rfl) (by kernel_rfl) (by kernel_rfl) (by kernel_rfl) (by exact fun _ _ _ h => h) (Or.inl ⟨by rfl, ?_⟩) (by assumption) ?_
         rotate_left
         ·(intro w hSw; (try dsimp only at hSw); go_simp; (try with_reducible rfl))
         (try simp only [Act.put, xL4, xL5, xL6])
         refine wpAnyH_take (i := 3) (v := ?_) (by simp only [xL1, xL2, xL3]; rfl) (by kernel_rfl) (by kernel_rfl) (by kernel_rfl) (by exact fun _ _ _ h => h) (Or.inl ⟨by rfl, ?_⟩) (by assumption) ?_
         rotate_left
         ·(intro w hSw; (try dsimp only at hSw); go_simp; (try with_reducible rfl))
         (try simp only [Act.put, xL4, xL5, xL6])
         refine wpAnyH_take (i := 4) (v := ?_) (by simp only [xL1, xL2, xL3]; rfl) (by kernel_rfl) (by kernel_rfl) (by kernel_rfl) (by exact fun _ _ _ h => h) (Or.inl ⟨by rfl, ?_⟩) (by assumption) ?_
         rotate_left
         ·(intro w hSw; (try dsimp only at hSw); go_simp; (try with_reducible rfl))
         (try simp only [Act.put, xL4, xL5, xL6])
         refine wpAnyH_take (i := 5) (v := ?_) (by simp only [xL1, xL2, xL3]; rfl) (by kernel_rfl) (by kernel_rfl) (by kernel_rfl) (by exact fun _ _ _ h => h) (Or.inl ⟨by rfl, ?_⟩) (by assumption) ?_
         rotate_left
         ·(intro w hSw; (try dsimp only at hSw); go_simp; (try with_reducible rfl))
         (try simp only [Act.put, xL4, xL5, xL6])
         refine wpAnyH_take (i := 6) (v := ?_) (by simp only [xL1, xL2, xL3]; rfl) (by kernel_rfl) (by kernel_rfl) (by kernel_rfl) (by exact fun _ _ _ h => h) (Or.inl ⟨by rfl, ?_⟩) (by assumption) ?_
         rotate_left
         ·(intro w hSw; (try dsimp only at hSw); go_simp; (try with_reducible rfl))
         (try simp only [Act.put, xL4, xL5, xL6])
         refine wpAnyH_take (i := 7) (v := ?_) (by simp only [xL1, xL2, xL3]; rfl) (by kernel_rfl) (by kernel_rfl) (by kernel_rfl) (by exact fun _ _ _ h => h) (Or.inl ⟨by rfl, ?_⟩) (by assumption) ?_
         rotate_left
         ·(intro w hSw; (try dsimp only at hSw); go_simp; (try with_reducible rfl))
         (try simp only [Act.put, xL4, xL5, xL6])
         refine wpAnyH_take (i := 8) (v := ?_) (by simp only [xL1, xL2, xL3]; rfl) (by kernel_rfl) (by kernel_rfl) (by kernel_rfl) (by exact fun _ _ _ h => h) (Or.inl ⟨by rfl, ?_⟩) (by assumption) ?_
         rotate_left
         ·(intro w hSw; (try dsimp only at hSw); go_simp; (try with_reducible rfl))
         (try simp only [Act.put, xL4, xL5, xL6])
         refine wpAnyH_ready (rs := [9]) (by kernel_rfl) (by simp) ?_
         refine AllReadyH.cons (by simp only [xL1, xL2, xL3]; rfl) (fun K hK => ?_) AllReadyH.nil
         go_simp
         refine (is10_at _ _ _ 4 4 _ r4 HZ6.out (r6.at 4 HZ6.out) (by omega) (by omega)).mono ?_
         rintro e w99 ⟨rfl, b99⟩
         go_wp2_with fail
         replace X4 := X4.below b99
         replace r4 := r4.below b99
         replace X6 := X6.below b99
         replace r6 := r6.below b99
         replace BB := BB.trans (b99.mono BB.size)
         clear b99
         refine hK.out _ _ ?_ (fun hH1 => ?_)
         ·exact ⟨X4.cells10.1, X4.cells10.2.1, X4.cells10.2.2, X6.cells10.1, X6.cells10.2.1, X6.cells10.2.2⟩
         clear hK K hHeld
         (try simp only [Act.put, xL4, xL5, xL6])
         refine wpAnyH_take (i := 10) (v := ?_) (by simp only [xL1, xL2, xL3]; rfl) (by kernel_rfl) (by kernel_rfl) (by kernel_rfl) (by exact fun _ _ _ h => h) (Or.inl ⟨by rfl, ?_⟩) (by assumption) ?_
         rotate_left
         ·(intro w hSw; (try dsimp only at hSw); go_simp; (try with_reducible rfl))
         (try simp only [Act.put, xL4, xL5, xL6])
         refine wpAnyH_done (by kernel_rfl) ?_ _
         clear hH1
         go_wp2
         go_roundw
         case rel => exact ⟨j + 1, by omega, by go_num, BB⟩
         case measure => simp [intOf]; omega
        ·obtain rfl : j = i := by omega
         have f1 : ¬ (j : Int) < (j : Int) := by omega
         go_wp2_with fail
         refine (awake10_at _ (ht0.out.below BB)).mono ?_
         rintro e w9 ⟨rfl, b9⟩
         replace BB := BB.trans (b9.mono BB.size)
         go_wp2
         go_ret
         exact ⟨rfl, BB0.out.trans (BB.mono BB0.out.size)⟩
 ·have HN : Hid (cutW F kk NN T f ≠ 0) := h0
  obtain ⟨mb, hmb⟩ : ∃ mb, mayB F kk NN T = mb := ⟨_, rfl⟩
  have HB : Hid (mayB F kk NN T = mb) := hmb
  clear hmb h0
  refine (rcuts_no F f _ kk NN T 4 _ MR ht (by omega) (by omega) HN.out).mono ?_
  rintro e w6 ⟨rfl, b6⟩
  replace ht := ht.below b6
  replace MR := MR.below b6
  replace VM := VM.below b6
  replace BB := BB.trans (b6.mono BB.size)
  clear b6
  obtain ⟨VM_0, VM_1, VM_2, VM_3⟩ := id VM
  go_wp2_with fail
  clear VM_0 VM_1 VM_2 VM_3
  refine (rsteps_no F f _ kk NN T 4 _ MR ht (by omega) (by omega) HN.out).mono ?_
  rintro e w7 ⟨rfl, b7⟩
  replace ht := ht.below b7
  replace MR := MR.below b7
  replace VM := VM.below b7
  replace BB := BB.trans (b7.mono BB.size)
  clear b7
  obtain ⟨VM_0, VM_1, VM_2, VM_3⟩ := id VM
  go_wp2_with fail
  clear VM_0 VM_1 VM_2 VM_3
  refine (ok_may F _ kk NN T 4 _ MR ht (by omega) (by omega)).mono ?_
  rintro e w8 ⟨rfl, b8⟩
  replace ht := ht.below b8
  replace MR := MR.below b8
  replace VM := VM.below b8
  replace BB := BB.trans (b8.mono BB.size)
  clear b8
  rw [HB.out]
  cases mb
  ·have HC : Hid (cutW F kk NN T f = 1) := by show cutW _ _ _ _ _ = 1; unfold cutW; rw [HB.out]; rfl
   rw [HC.out]
   obtain ⟨VM_0, VM_1, VM_2, VM_3⟩ := id VM
   go_wp2_with fail
   clear VM_0 VM_1 VM_2 VM_3
   refine (awake10_at _ ht).mono ?_
   rintro e w9 ⟨rfl, b9⟩
   replace ht := ht.below b9
   replace MR := MR.below b9
   replace VM := VM.below b9
   replace BB := BB.trans (b9.mono BB.size)
   clear b9
   go_wp2
   go_ret
   exact ⟨rfl, BB⟩
  ·have hr : ¬ (0 ≤ f ∧ f < F) := fun h => HN.out (by unfold cutW; rw [if_pos HB.out, if_pos h])
   have HC : Hid (cutW F kk NN T f = 8) := by show cutW _ _ _ _ _ = 8; unfold cutW; rw [if_pos HB.out, if_neg hr]
   by_cases hf0 : f < 0
   ·have g1 : decide (f < 0) = true := decide_eq_true hf0
    clear hr
    rw [HC.out]
    obtain ⟨VM_0, VM_1, VM_2, VM_3⟩ := id VM
    go_wp2_with fail
    clear VM_0 VM_1 VM_2 VM_3
    refine (awake10_at _ ht).mono ?_
    rintro e w9 ⟨rfl, b9⟩
    replace ht := ht.below b9
    replace MR := MR.below b9
    replace VM := VM.below b9
    replace BB := BB.trans (b9.mono BB.size)
    clear b9
    go_wp2
    go_ret
    exact ⟨rfl, BB⟩
   ·have g1 : decide (f < 0) = false := decide_eq_false hf0
    have h2 : f ≥ F := by omega
    have g2 : decide (f ≥ F) = true := decide_eq_true h2
    clear hr
    rw [HC.out]
    obtain ⟨VM_0, VM_1, VM_2, VM_3⟩ := id VM
    go_wp2_with fail
    clear VM_0 VM_1 VM_2 VM_3
    refine (awake10_at _ ht).mono ?_
    rintro e w9 ⟨rfl, b9⟩
    replace ht := ht.below b9
    replace MR := MR.below b9
    replace VM := VM.below b9
    replace BB := BB.trans (b9.mono BB.size)
    clear b9
    go_wp2
    go_ret
    exact ⟨rfl, BB⟩
theorem own : ownKnob Tryz.prog.godebug = none := by kernel_rfl
theorem laidOut : laidOutB Tryz.prog = true := by kernel_rfl

abbrev laid1 : List (String × DataW Unit) := [("math/bits.deBruijn64tab", Rows.laid_math_bits_deBruijn64tab)]
theorem gTab : Tryz.prog.globalNamed "math/bits.deBruijn64tab" = some 0 := by kernel_rfl
theorem gTabType : (Tryz.prog.globals[0]?).map (·.type) = some 170 := by kernel_rfl
theorem uTab : Tryz.prog.underlying 170 = some (.array 64 5) := by kernel_rfl
theorem uCell : Tryz.prog.underlying 5 = some (.int .u8) := by kernel_rfl
theorem cCell : Tryz.prog.cellsOf 5 = 1 := by kernel_rfl
theorem cTab : Tryz.prog.cellsOf 170 = 64 := by kernel_rfl
/-- The listed table lies in its cells. -/
theorem tab_of {W : World} (h : laidMetH Tryz.prog laid1 W) : Tab W := by
 rw [MakeChecks.laidMetH_plain _ _ _ (by kernel_rfl)] at h
 have hd : laid1 = [("math/bits.deBruijn64tab", Lib.tabData .u8 (Lib.deBruijn64tab.map fun (n : Nat) => Int.ofNat n))] := rfl
 rw [hd] at h
 have hT := Lib.tabIs_of_head gTab gTabType uTab uCell cCell cTab h
 intro i hi
 have hc := hT.cell gTab i (by rw [List.length_map]; exact hi)
 rw [hc]
 congr 2
 rw [List.getD_eq_getElem?_getD, List.getElem?_map, List.getD_eq_getElem?_getD]
 cases Lib.deBruijn64tab[i]? <;> rfl
/-- A start for the witness: the heap that the run of the program's own initialisers leaves. -/
noncomputable def startW (os : Os) : World := { World.holding Tryz.prog os ⟨#[], #[], []⟩ with heap := (varsWorld Tryz.prog 400 (varsId Tryz.prog) os (fun _ _ => 0)).heap }
theorem start_met (os : Os) (args : Array Value) : laidMetH Tryz.prog laid1 ((startW os).forCall (fun _ _ => 0) ⟨#[], args, []⟩).memory :=
 laidMetH_of_parts3 (fuel := 8) (laidMet_of_run' 8 (by kernel_rfl) (by kernel_rfl)) (by kernel_rfl) (by kernel_rfl)

set_option maxRecDepth 100000 in
theorem lifted (os : Os) (started : os.Started) (H : Type) (enc : TypeId × Value → H) :
  ReturnsInHanded {} Tryz.checked os 6 .any (fun w args => (Rows.routeCutsSpec.pre enc Tryz.prog Tryz.f6 [] false w args ∧ laidMetH Tryz.prog laid1 w) ∧ sizedMet enc Tryz.prog Tryz.f6 (OpenSpec.ofChange Rows.routeCutsSpec) false w args) (Rows.routeCutsSpec.post enc Tryz.prog Tryz.f6 false true false false) := by
 refine returnsInHanded_of_change_and (C := Tryz.checked) (X := fun w _ => laidMetH Tryz.prog laid1 w) (fun _ _ _ hh h => h.of_heap hh) own started (by kernel_rfl) Tryz.func6
  (ChangeSpec.witness_shaped (enc := enc) (C := Tryz.checked) (os := os) (X := fun w _ => laidMetH Tryz.prog laid1 w) false (startW os) #[.agg #[.int .i64 0, .slice none 0 0], .int .i64 0] 8 rfl (World.shaped_of_RefB (by kernel_rfl) (by kernel_rfl)) (by kernel_rfl) (by kernel_rfl) (by kernel_rfl) (start_met os _)) ?_
 intro W base args ds gs before hval0 hW _ _ hL _
 have hval : ∀ (j : Nat) t v, Tryz.f6.params[j]? = some t → args[j]? = some v → Value.okWide Tryz.prog W .any base t v := hval0
 have hW' := hW
 obtain ⟨p, q, hA0, hV, rfl, hfz, hnd⟩ := hW
 have hA : DataW.TrodAll enc Tryz.prog W 0 (fun _ => true) true Tryz.f6.params.toList args.toList ds p := hA0
 rw [Tryz.params6] at hA hval
 obtain ⟨v0, vs0, d0, ds0, p0, q0, hargs, rfl, rfl, h0, r0⟩ := trodAll_cons hA
 obtain ⟨v1, vs1, d1, ds1, p1, q1, rfl, rfl, rfl, h1, r1⟩ := trodAll_cons r0
 obtain ⟨rfl, rfl, rfl⟩ := trodAll_nil r1
 obtain rfl : args = #[v0, v1] := by cases args; simp_all
 obtain ⟨rfl, rfl⟩ := trodVars_none hV
 have k0 := h0
 have lt0 : ∀ x ∈ p0, x.block < W.heap.size := by obtain ⟨m, hm⟩ := k0; exact DataW.trod_lt m _ _ _ hm
 obtain ⟨F0, a0, c0, n0, N0, z0, rfl, f0, w0⟩ := open_model 4 (hval 0 27 v0 rfl rfl) h0
 obtain ⟨a1, rfl, rfl, rfl, w1⟩ := open_int Tryz.underlying3 (hval 1 3 v1 rfl rfl) h1
 clear hA0 hval0
 refine (walk _ _ _ _ _ _ a1 W f0 w0 w1 (tab_of hL)).mono fun e W' ⟨he, bel⟩ => ?_
 subst he
 exact ⟨_, rfl, _, _, _, [], _, [], hW', trodAll_mk1 (shut_bool Tryz.underlying4 _), (trodAll_cons_mk (Below.trod laidOut (by kernel_rfl) (of_decide_eq_true (by kernel_rfl)) k0 bel lt0) (trodAll_cons_mk (shut_int Tryz.underlying3 w1) trodAll_mk0)), rfl, bel.frame _, fun h => by cases h⟩

theorem over : Rows.routeCutsRow.holds Tryz.pinned (OpenSpec.ofChange Rows.routeCutsSpec) :=
 OpenClaim.holds_of_wide 6 Tryz.f6 rfl rfl rfl rfl rfl rfl rfl ⟨rfl, rfl, rfl, rfl, rfl⟩ rfl rfl rfl rfl rfl (by kernel_rfl) Tryz.func6 (by kernel_rfl)
  (of_decide_eq_true (by kernel_rfl)) (by unfold Func.isWrapper; first | (rw [if_pos (by decide +kernel)]; kernel_rfl) | (rw [if_neg (by decide +kernel)]; exact ⟨rfl, rfl⟩))
  (fun os started H enc _ => lifted os started H enc)

end Go.Proofs.YtnnnkajomljdgaaGreatDoor.routeCuts
namespace Go.Proofs.YtnnnkajomljdgaaGreatDoor
/-- The statement: the row, tied to the text of the program. -/
theorem routeCuts_holds : Rows.RouteCutsCardSaid :=
 Claim7.holds_tied_plain_at .later [] [.data] true (true, "60721c48722a9e8b562d581eaa8eecad4e5ec86f465869b22e499f0c68cb6c50") false
  routeCuts.over (fun _ h => by cases h) (by kernel_rfl) (fun _ h => by cases h) routeCuts_row_tie rfl ⟨rfl, rfl⟩ (by kernel_rfl) rfl
  (fun f fn hf hfn => by
   obtain rfl : f = 6 := Option.some.inj ((show Tryz.prog.funcNamed "dendron/dendronlaw10.RouteCuts" = some 6 by kernel_rfl).symm.trans hf) |>.symm
   obtain rfl : fn = Tryz.f6 := (Option.some.inj (Tryz.func6.symm.trans hfn)).symm
   exact ⟨by kernel_rfl, fun j t ht => by
    rw [Tryz.params6] at ht
    have hm : t ∈ [27, 3] := by simpa using Array.mem_of_getElem? ht
    have hall : ([27, 3].all fun u => !Tryz.prog.wantsStandIn u) = true := by kernel_rfl
    exact (show Tryz.prog.wantsStandIn t = false by simpa using List.all_eq_true.1 hall t hm)⟩)
  (by kernel_rfl)
end Go.Proofs.YtnnnkajomljdgaaGreatDoor
