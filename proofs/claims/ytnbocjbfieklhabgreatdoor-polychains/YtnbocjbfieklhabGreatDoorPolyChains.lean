/-
 Proves that Chain answers, of any polynomial of up to 6 coefficients of up to 2 limbs, a chain that begins with it and its slope, each behind being the rest of the two ahead with the other sign, the last dividing the one ahead of it, whatever comes in (the statement PolyChains, its tied card); the table of math/bits lies as the program's text lays it; no other condition.
-/
import Derived.Test.YtnbocjbfieklhabGreatDoorJ7b765e809a
import Derived.Test.YtnbocjbfieklhabGreatDoorRows
import Derived.Test.YtnbocjbfieklhabGreatDoorJ281f3fcf52
import Derived.Test.YtnbocjbfieklhabGreatDoorJ230f7b8b14
import Derived.Test.YtnbocjbfieklhabGreatDoorJbf2849fb3a
import Derived.WalkKit
import Derived.ProofKit
import Derived.OpenShut
import Derived.ShutString
import Derived.ChangeOld
import Derived.Below
import Derived.Test.YtnbocjbfieklhabGreatDoorTie
import Derived.Test.YtnbocjbfieklhabGreatDoorCards
import Derived.LaidByTextLater
import Derived.LaidHandle
import Derived.Lib.LaidTab
import Derived.SevenTiedAt
namespace Go.Proofs.YtnbocjbfieklhabGreatDoor.polyChains
open Go.ChangeShapes Go.WideShapes Go.ChangeAt Go.RowKit
open Go.ChangeMaps (open_string shut_string)
set_option linter.unusedVariables false
set_option linter.unusedSimpArgs false

def KLIST : Nat := 2

set_option maxRecDepth 100000 in
set_option maxHeartbeats 32000000 in
theorem walk (v1 : Value) (n1 : Nat) (q1 : Nat → Rat) (w : World) (h1 : RawQ w v1 n1 q1 KLIST) (ht : Tab w) :
  Calls Tryz.prog 3 #[v1] w fun e w' => e = .returned (.bool true) ∧ Below w.heap.size w w' := by
 unfold KLIST at h1
 have BB : Below w.heap.size w w := Below.refl _ _
 go_enter Tryz.func3, Tryz.ntmps3
 go_wp2_with fail
 refine (few4_at _ n1 6 q1 _ h1 (by omega)).mono ?_
 rintro e w1 ⟨ra, rfl, QAo, b1⟩
 replace h1 := h1.below b1
 replace ht := ht.below b1
 replace BB := BB.trans (b1.mono BB.size)
 clear b1
 have QA := QAo.row
 clear QAo
 obtain ⟨n, hn⟩ : ∃ n, n = min n1 6 := ⟨_, rfl⟩
 rw [← hn] at QA
 have hn6 : n ≤ 6 := by omega
 clear hn
 have sA : ∀ i, i < n → qsz (q1 i) ≤ 2 := fun i hi => QA.sz (by omega) i hi
 obtain ⟨aa, ca, rfl, _, _, _⟩ := QA.open
 go_wp2_with fail
 clear h1
 refine (pchain_all _ n q1 _ QA ht hn6).mono ?_
 rintro e w2 ⟨y, rfl, H, b2⟩
 replace ht := ht.below b2
 replace QA := QA.below b2
 replace BB := BB.trans (b2.mono BB.size)
 clear b2
 have tl := trimN_le q1 n
 rcases H with ⟨h0, rfl⟩ | ⟨T, N, C, hT0, hT6, DR, F⟩
 ·go_wp2_with fail
  refine (pdegree_at _ n q1 2 _ QA (by omega) (by omega) (by omega)).mono ?_
  rintro e w3 ⟨rfl, b3⟩
  replace ht := ht.below b3
  replace QA := QA.below b3
  replace BB := BB.trans (b3.mono BB.size)
  clear b3
  rw [h0]
  go_wp2_with fail
  refine (awake4_at _ ht).mono ?_
  rintro e w4 ⟨rfl, b4⟩
  replace ht := ht.below b4
  replace QA := QA.below b4
  replace BB := BB.trans (b4.mono BB.size)
  clear b4
  go_wp2
  go_ret
  exact ⟨rfl, BB⟩
 ·obtain ⟨gl, cap, el_, rfl, hTc, hcm, hcs, hfs⟩ := id DR
  clear hcs hfs el_
  have HF : Hid (ChF n q1 T N C) := F
  have hN0 := F.n0
  have hp0 := F.pos 0 hT0
  have hN06 := F.six 0
  have d1 : ¬ (trimN q1 n : Int) - 1 < 0 := by omega
  have d2 : decide ((trimN q1 n : Int) - 1 < 0) = false := decide_eq_false d1
  have t1 : ¬ (T : Int) = 0 := by omega
  have t2 : ((T : Int) == 0) = false := by simp; omega
  clear F hN0
  go_wp2_with fail
  refine (pdegree_at _ n q1 2 _ QA (by omega) (by omega) (by omega)).mono ?_
  rintro e w21 ⟨rfl, b21⟩
  replace ht := ht.below b21
  replace QA := QA.below b21
  replace DR := DR.below b21
  replace BB := BB.trans (b21.mono BB.size)
  clear b21
  go_wp2
  obtain ⟨a0, c0, X0, F0⟩ := DR.at 0 hT0
  have s0 : ∀ i, i < N 0 → qsz (C 0 i) ≤ 8000 := HF.out.sz 0 hT0
  have p0 := HF.out.top 0 hT0
  have HE0 : Hid (∀ i, co (N 0) (C 0) i = co n q1 i) := fun i => by
   rw [← co_trim q1 n i, ← HF.out.n0]
   show (if i < N 0 then C 0 i else 0) = (if i < N 0 then q1 i else 0)
   rw [HF.out.c0]
  by_cases h1T : T = 1
  ·have hone : Hid (trimN q1 n = 1) := HF.out.one h1T
   subst h1T
   have hDr : Below w21.heap.size w21 w21.drew := (Below.refl _ _).drew
   replace ht := ht.below hDr
   replace QA := QA.below hDr
   replace DR := DR.below hDr
   replace X0 := X0.below hDr
   replace F0 := F0.below hDr
   replace BB := BB.trans (hDr.mono BB.size)
   clear hDr
   refine wp_region_held_drew (S := (fun w' => w'.cell? ⟨gl, 0, none⟩ = some (.slice a0 (N 0) c0))) (by kernel_rfl) ?_ (fun hHeld => ?_)
   ·exact X0.cell
   generalize w21.drew = W41 at *
   refine wpAnyH_take (i := 0) (v := ?_) (by simp only [xL1, xL2, xL3]; rfl) (by kernel_rfl) (by kernel_rfl) (by kernel_rfl) (by exact fun _ _ _ h => h) (Or.inl ⟨by rfl, ?_⟩) (by assumption) ?_
   rotate_left
   ·(intro w hSw; (try dsimp only at hSw); go_simp; (try with_reducible rfl))
   (try simp only [Act.put, xL4, xL5, xL6])
   refine wpAnyH_take (i := 1) (v := ?_) (by simp only [xL1, xL2, xL3]; rfl) (by kernel_rfl) (by kernel_rfl) (by kernel_rfl) (by exact fun _ _ _ h => h) (Or.inl ⟨by rfl, ?_⟩) (by assumption) ?_
   rotate_left
   ·(intro w hSw; (try dsimp only at hSw); go_simp; (try with_reducible rfl))
   (try simp only [Act.put, xL4, xL5, xL6])
   refine wpAnyH_take (i := 2) (v := ?_) (by simp only [xL1, xL2, xL3]; rfl) (by kernel_rfl) (by kernel_rfl) (by kernel_rfl) (by exact fun _ _ _ h => h) (Or.inl ⟨by rfl, ?_⟩) (by assumption) ?_
   rotate_left
   ·(intro w hSw; (try dsimp only at hSw); go_simp; (try with_reducible rfl))
   (try simp only [Act.put, xL4, xL5, xL6])
   refine wpAnyH_take (i := 3) (v := ?_) (by simp only [xL1, xL2, xL3]; rfl) (by kernel_rfl) (by kernel_rfl) (by kernel_rfl) (by exact fun _ _ _ h => h) (Or.inl ⟨by rfl, ?_⟩) (by assumption) ?_
   rotate_left
   ·(intro w hSw; (try dsimp only at hSw); go_simp; (try with_reducible rfl))
   (try simp only [Act.put, xL4, xL5, xL6])
   refine wpAnyH_take (i := 4) (v := ?_) (by simp only [xL1, xL2, xL3]; rfl) (by kernel_rfl) (by kernel_rfl) (by kernel_rfl) (by exact fun _ _ _ h => h) (Or.inl ⟨by rfl, ?_⟩) (by assumption) ?_
   rotate_left
   ·(intro w hSw; (try dsimp only at hSw); go_simp; (try with_reducible rfl))
   (try simp only [Act.put, xL4, xL5, xL6])
   refine wpAnyH_take (i := 5) (v := ?_) (by simp only [xL1, xL2, xL3]; rfl) (by kernel_rfl) (by kernel_rfl) (by kernel_rfl) (by exact fun _ _ _ h => h) (Or.inl ⟨by rfl, ?_⟩) (by assumption) ?_
   rotate_left
   ·(intro w hSw; (try dsimp only at hSw); go_simp; (try with_reducible rfl))
   (try simp only [Act.put, xL4, xL5, xL6])
   refine wpAnyH_take (i := 6) (v := ?_) (by simp only [xL1, xL2, xL3]; rfl) (by kernel_rfl) (by kernel_rfl) (by kernel_rfl) (by exact fun _ _ _ h => h) (Or.inl ⟨by rfl, ?_⟩) (by assumption) ?_
   rotate_left
   ·(intro w hSw; (try dsimp only at hSw); go_simp; (try with_reducible rfl))
   (try simp only [Act.put, xL4, xL5, xL6])
   refine wpAnyH_take (i := 7) (v := ?_) (by simp only [xL1, xL2, xL3]; rfl) (by kernel_rfl) (by kernel_rfl) (by kernel_rfl) (by exact fun _ _ _ h => h) (Or.inl ⟨by rfl, ?_⟩) (by assumption) ?_
   rotate_left
   ·(intro w hSw; (try dsimp only at hSw); go_simp; (try with_reducible rfl))
   (try simp only [Act.put, xL4, xL5, xL6])
   refine wpAnyH_ready (rs := [8]) (by kernel_rfl) (by simp) ?_
   refine AllReadyH.cons (by simp only [xL1, xL2, xL3]; rfl) (fun K hK => ?_) AllReadyH.nil
   go_simp
   refine (is4_at _ _ (N 0) n (C 0) q1 8000 _ F0 (QA.le (by omega)) s0 ht (by omega) (by omega) (by omega) (by omega) (fun _ => p0) HE0.out).mono ?_
   rintro e w41 ⟨rfl, b41⟩
   go_wp2_with fail
   replace ht := ht.below b41
   replace QA := QA.below b41
   replace DR := DR.below b41
   replace X0 := X0.below b41
   replace F0 := F0.below b41
   replace BB := BB.trans (b41.mono BB.size)
   clear b41
   refine hK.out _ _ ?_ (fun hH1 => ?_)
   ·exact X0.cell
   clear hK K hHeld
   (try simp only [Act.put, xL4, xL5, xL6])
   refine wpAnyH_take (i := 9) (v := ?_) (by simp only [xL1, xL2, xL3]; rfl) (by kernel_rfl) (by kernel_rfl) (by kernel_rfl) (by exact fun _ _ _ h => h) (Or.inl ⟨by rfl, ?_⟩) (by assumption) ?_
   rotate_left
   ·(intro w hSw; (try dsimp only at hSw); go_simp; (try with_reducible rfl))
   (try simp only [Act.put, xL4, xL5, xL6])
   refine wpAnyH_take (i := 10) (v := ?_) (by simp only [xL1, xL2, xL3]; rfl) (by kernel_rfl) (by kernel_rfl) (by kernel_rfl) (by exact fun _ _ _ h => h) (Or.inl ⟨by rfl, ?_⟩) (by assumption) ?_
   rotate_left
   ·(intro w hSw; (try dsimp only at hSw); go_simp; (try with_reducible rfl))
   (try simp only [Act.put, xL4, xL5, xL6])
   refine wpAnyH_take (i := 11) (v := ?_) (by simp only [xL1, xL2, xL3]; rfl) (by kernel_rfl) (by kernel_rfl) (by kernel_rfl) (by exact fun _ _ _ h => h) (Or.inl ⟨by rfl, ?_⟩) (by assumption) ?_
   rotate_left
   ·(intro w hSw; (try dsimp only at hSw); go_simp; (try with_reducible rfl))
   (try simp only [Act.put, xL4, xL5, xL6])
   refine wpAnyH_take (i := 12) (v := ?_) (by simp only [xL1, xL2, xL3]; rfl) (by kernel_rfl) (by kernel_rfl) (by kernel_rfl) (by exact fun _ _ _ h => h) (Or.inl ⟨by rfl, ?_⟩) (by assumption) ?_
   rotate_left
   ·(intro w hSw; (try dsimp only at hSw); go_simp; (try with_reducible rfl))
   (try simp only [Act.put, xL4, xL5, xL6])
   refine wpAnyH_take (i := 13) (v := ?_) (by simp only [xL1, xL2, xL3]; rfl) (by kernel_rfl) (by kernel_rfl) (by kernel_rfl) (by exact fun _ _ _ h => h) (Or.inl ⟨by rfl, ?_⟩) (by assumption) ?_
   rotate_left
   ·(intro w hSw; (try dsimp only at hSw); go_simp; (try with_reducible rfl))
   (try simp only [Act.put, xL4, xL5, xL6])
   refine wpAnyH_take (i := 14) (v := ?_) (by simp only [xL1, xL2, xL3]; rfl) (by kernel_rfl) (by kernel_rfl) (by kernel_rfl) (by exact fun _ _ _ h => h) (Or.inl ⟨by rfl, ?_⟩) (by assumption) ?_
   rotate_left
   ·(intro w hSw; (try dsimp only at hSw); go_simp; (try with_reducible rfl))
   (try simp only [Act.put, xL4, xL5, xL6])
   refine wpAnyH_take (i := 15) (v := ?_) (by simp only [xL1, xL2, xL3]; rfl) (by kernel_rfl) (by kernel_rfl) (by kernel_rfl) (by exact fun _ _ _ h => h) (Or.inl ⟨by rfl, ?_⟩) (by assumption) ?_
   rotate_left
   ·(intro w hSw; (try dsimp only at hSw); go_simp; (try with_reducible rfl))
   (try simp only [Act.put, xL4, xL5, xL6])
   refine wpAnyH_take (i := 16) (v := ?_) (by simp only [xL1, xL2, xL3]; rfl) (by kernel_rfl) (by kernel_rfl) (by kernel_rfl) (by exact fun _ _ _ h => h) (Or.inl ⟨by rfl, ?_⟩) (by assumption) ?_
   rotate_left
   ·(intro w hSw; (try dsimp only at hSw); go_simp; (try with_reducible rfl))
   (try simp only [Act.put, xL4, xL5, xL6])
   refine wpAnyH_ready (rs := [17]) (by kernel_rfl) (by simp) ?_
   refine AllReadyH.cons (by simp only [xL1, xL2, xL3]; rfl) (fun K hK => ?_) AllReadyH.nil
   go_simp
   refine (pdegree_at _ n q1 2 _ QA (by omega) (by omega) (by omega)).mono ?_
   rintro e w42 ⟨rfl, b42⟩
   rw [hone.out]
   go_wp2_with fail
   replace ht := ht.below b42
   replace QA := QA.below b42
   replace DR := DR.below b42
   replace X0 := X0.below b42
   replace F0 := F0.below b42
   replace BB := BB.trans (b42.mono BB.size)
   clear b42
   refine hK.out _ _ ?_ (fun hH2 => ?_)
   ·exact X0.cell
   clear hK K hH1
   (try simp only [Act.put, xL4, xL5, xL6])
   refine wpAnyH_take (i := 18) (v := ?_) (by simp only [xL1, xL2, xL3]; rfl) (by kernel_rfl) (by kernel_rfl) (by kernel_rfl) (by exact fun _ _ _ h => h) (Or.inl ⟨by rfl, ?_⟩) (by assumption) ?_
   rotate_left
   ·(intro w hSw; (try dsimp only at hSw); go_simp; (try with_reducible rfl))
   (try simp only [Act.put, xL4, xL5, xL6])
   refine wpAnyH_take (i := 19) (v := ?_) (by simp only [xL1, xL2, xL3]; rfl) (by kernel_rfl) (by kernel_rfl) (by kernel_rfl) (by exact fun _ _ _ h => h) (Or.inl ⟨by rfl, ?_⟩) (by assumption) ?_
   rotate_left
   ·(intro w hSw; (try dsimp only at hSw); go_simp; (try with_reducible rfl))
   (try simp only [Act.put, xL4, xL5, xL6])
   refine wpAnyH_take (i := 20) (v := ?_) (by simp only [xL1, xL2, xL3]; rfl) (by kernel_rfl) (by kernel_rfl) (by kernel_rfl) (by exact fun _ _ _ h => h) (Or.inl ⟨by rfl, ?_⟩) (by assumption) ?_
   rotate_left
   ·(intro w hSw; (try dsimp only at hSw); go_simp; (try with_reducible rfl))
   (try simp only [Act.put, xL4, xL5, xL6])
   refine wpAnyH_take (i := 21) (v := ?_) (by simp only [xL1, xL2, xL3]; rfl) (by kernel_rfl) (by kernel_rfl) (by kernel_rfl) (by exact fun _ _ _ h => h) (Or.inl ⟨by rfl, ?_⟩) (by assumption) ?_
   rotate_left
   ·(intro w hSw; (try dsimp only at hSw); go_simp; (try with_reducible rfl))
   (try simp only [Act.put, xL4, xL5, xL6])
   refine wpAnyH_take (i := 22) (v := ?_) (by simp only [xL1, xL2, xL3]; rfl) (by kernel_rfl) (by kernel_rfl) (by kernel_rfl) (by exact fun _ _ _ h => h) (Or.inl ⟨by rfl, ?_⟩) (by assumption) ?_
   rotate_left
   ·(intro w hSw; (try dsimp only at hSw); go_simp; (try with_reducible rfl))
   (try simp only [Act.put, xL4, xL5, xL6])
   refine wpAnyH_take (i := 23) (v := ?_) (by simp only [xL1, xL2, xL3]; rfl) (by kernel_rfl) (by kernel_rfl) (by kernel_rfl) (by exact fun _ _ _ h => h) (Or.inl ⟨by rfl, ?_⟩) (by assumption) ?_
   rotate_left
   ·(intro w hSw; (try dsimp only at hSw); go_simp; (try with_reducible rfl))
   (try simp only [Act.put, xL4, xL5, xL6])
   refine wpAnyH_take (i := 24) (v := ?_) (by simp only [xL1, xL2, xL3]; rfl) (by kernel_rfl) (by kernel_rfl) (by kernel_rfl) (by exact fun _ _ _ h => h) (Or.inl ⟨by rfl, ?_⟩) (by assumption) ?_
   rotate_left
   ·(intro w hSw; (try dsimp only at hSw); go_simp; (try with_reducible rfl))
   (try simp only [Act.put, xL4, xL5, xL6])
   refine wpAnyH_take (i := 25) (v := ?_) (by simp only [xL1, xL2, xL3]; rfl) (by kernel_rfl) (by kernel_rfl) (by kernel_rfl) (by exact fun _ _ _ h => h) (Or.inl ⟨by rfl, ?_⟩) (by assumption) ?_
   rotate_left
   ·(intro w hSw; (try dsimp only at hSw); go_simp; (try with_reducible rfl))
   (try simp only [Act.put, xL4, xL5, xL6])
   refine wpAnyH_take (i := 26) (v := undef) (by simp only [xL1, xL2, xL3]; rfl) (by kernel_rfl) (by kernel_rfl) (by kernel_rfl) (by exact fun _ _ _ h => h) (Or.inr ⟨by rfl, rfl⟩) (by assumption) ?_
   (try simp only [Act.put, xL4, xL5, xL6])
   refine wpAnyH_take (i := 27) (v := undef) (by simp only [xL1, xL2, xL3]; rfl) (by kernel_rfl) (by kernel_rfl) (by kernel_rfl) (by exact fun _ _ _ h => h) (Or.inr ⟨by rfl, rfl⟩) (by assumption) ?_
   (try simp only [Act.put, xL4, xL5, xL6])
   refine wpAnyH_take (i := 28) (v := undef) (by simp only [xL1, xL2, xL3]; rfl) (by kernel_rfl) (by kernel_rfl) (by kernel_rfl) (by exact fun _ _ _ h => h) (Or.inr ⟨by rfl, rfl⟩) (by assumption) ?_
   (try simp only [Act.put, xL4, xL5, xL6])
   refine wpAnyH_take (i := 29) (v := undef) (by simp only [xL1, xL2, xL3]; rfl) (by kernel_rfl) (by kernel_rfl) (by kernel_rfl) (by exact fun _ _ _ h => h) (Or.inr ⟨by rfl, rfl⟩) (by assumption) ?_
   (try simp only [Act.put, xL4, xL5, xL6])
   refine wpAnyH_take (i := 30) (v := undef) (by simp only [xL1, xL2, xL3]; rfl) (by kernel_rfl) (by kernel_rfl) (by kernel_rfl) (by exact fun _ _ _ h => h) (Or.inr ⟨by rfl, rfl⟩) (by assumption) ?_
   (try simp only [Act.put, xL4, xL5, xL6])
   refine wpAnyH_take (i := 31) (v := undef) (by simp only [xL1, xL2, xL3]; rfl) (by kernel_rfl) (by kernel_rfl) (by kernel_rfl) (by exact fun _ _ _ h => h) (Or.inr ⟨by rfl, rfl⟩) (by assumption) ?_
   (try simp only [Act.put, xL4, xL5, xL6])
   refine wpAnyH_take (i := 32) (v := undef) (by simp only [xL1, xL2, xL3]; rfl) (by kernel_rfl) (by kernel_rfl) (by kernel_rfl) (by exact fun _ _ _ h => h) (Or.inr ⟨by rfl, rfl⟩) (by assumption) ?_
   (try simp only [Act.put, xL4, xL5, xL6])
   refine wpAnyH_take (i := 33) (v := ?_) (by simp only [xL1, xL2, xL3]; rfl) (by kernel_rfl) (by kernel_rfl) (by kernel_rfl) (by exact fun _ _ _ h => h) (Or.inl ⟨by rfl, ?_⟩) (by assumption) ?_
   rotate_left
   ·(intro w hSw; (try dsimp only at hSw); go_simp; (try with_reducible rfl))
   (try simp only [Act.put, xL4, xL5, xL6])
   refine wpAnyH_take (i := 34) (v := ?_) (by simp only [xL1, xL2, xL3]; rfl) (by kernel_rfl) (by kernel_rfl) (by kernel_rfl) (by exact fun _ _ _ h => h) (Or.inl ⟨by rfl, ?_⟩) (by assumption) ?_
   rotate_left
   ·(intro w hSw; (try dsimp only at hSw); go_simp; (try with_reducible rfl))
   (try simp only [Act.put, xL4, xL5, xL6])
   refine wpAnyH_done (by kernel_rfl) ?_ _
   clear hH2
   go_wp2
   have BW : Hid (Below w.heap.size w w42) := BB
   clear BB
   go_loopw [4] (fun vi wr => vi = .int .i64 2 ∧ wr = w42) (fun _ _ => 0)
   case atStart => exact ⟨rfl, rfl⟩
   case round =>
    obtain ⟨rfl, hwr⟩ := hrel
    subst hwr
    have BB := BW.out
    go_wp2_with fail
    refine (awake4_at _ ht).mono ?_
    rintro e w43 ⟨rfl, b43⟩
    replace ht := ht.below b43
    replace QA := QA.below b43
    replace DR := DR.below b43
    replace X0 := X0.below b43
    replace F0 := F0.below b43
    replace BB := BB.trans (b43.mono BB.size)
    clear b43
    go_wp2
    go_ret
    exact ⟨rfl, BB⟩
  ·have hT2 : 1 < T := by omega
   have t3 : ¬ (T : Int) = 1 := by omega
   have t4 : ((T : Int) == 1) = false := by simp; omega
   have t5 : (1 : Int) < (T : Int) := by omega
   have t6 : decide ((T : Int) > 1) = true := decide_eq_true t5
   have t7 : (T : Int) > 1 := t5
   obtain ⟨a1, c1, X1, F1⟩ := DR.at 1 hT2
   have s1 : ∀ i, i < N 1 → qsz (C 1 i) ≤ 8000 := HF.out.sz 1 hT2
   have HN1 : Hid (trimN (fun i => q1 (i + 1) * (((i + 1 : Nat) : Int) : Rat)) (n - 1) = N 1) := HF.out.n1.symm
   have HT1 : Hid (trimN (C 1) (N 1) = N 1) := trimN_full _ _ (fun _ => HF.out.top 1 hT2)
   have HC1 : Hid (∀ i, C 1 i = (fun i => q1 (i + 1) * (((i + 1 : Nat) : Int) : Rat)) i) := HF.out.c1 hT2
   have hN16 := HF.out.six 1
   have hDr : Below w21.heap.size w21 w21.drew := (Below.refl _ _).drew
   replace ht := ht.below hDr
   replace QA := QA.below hDr
   replace DR := DR.below hDr
   replace X0 := X0.below hDr
   replace F0 := F0.below hDr
   replace X1 := X1.below hDr
   replace F1 := F1.below hDr
   replace BB := BB.trans (hDr.mono BB.size)
   clear hDr
   refine wp_region_held_drew (S := (fun w' => w'.cell? ⟨gl, 0, none⟩ = some (.slice a0 (N 0) c0) ∧ w'.cell? ⟨gl, 1, none⟩ = some (.slice a1 (N 1) c1))) (by kernel_rfl) ?_ (fun hHeld => ?_)
   ·exact ⟨X0.cell, X1.cell⟩
   generalize w21.drew = W61 at *
   refine wpAnyH_take (i := 0) (v := ?_) (by simp only [xL1, xL2, xL3]; rfl) (by kernel_rfl) (by kernel_rfl) (by kernel_rfl) (by exact fun _ _ _ h => h) (Or.inl ⟨by rfl, ?_⟩) (by assumption) ?_
   rotate_left
   ·(intro w hSw; (try dsimp only at hSw); go_simp; (try with_reducible rfl))
   (try simp only [Act.put, xL4, xL5, xL6])
   refine wpAnyH_take (i := 1) (v := ?_) (by simp only [xL1, xL2, xL3]; rfl) (by kernel_rfl) (by kernel_rfl) (by kernel_rfl) (by exact fun _ _ _ h => h) (Or.inl ⟨by rfl, ?_⟩) (by assumption) ?_
   rotate_left
   ·(intro w hSw; (try dsimp only at hSw); go_simp; (try with_reducible rfl))
   (try simp only [Act.put, xL4, xL5, xL6])
   refine wpAnyH_take (i := 2) (v := ?_) (by simp only [xL1, xL2, xL3]; rfl) (by kernel_rfl) (by kernel_rfl) (by kernel_rfl) (by exact fun _ _ _ h => h) (Or.inl ⟨by rfl, ?_⟩) (by assumption) ?_
   rotate_left
   ·(intro w hSw; (try dsimp only at hSw); go_simp; (try with_reducible rfl))
   (try simp only [Act.put, xL4, xL5, xL6])
   refine wpAnyH_take (i := 3) (v := ?_) (by simp only [xL1, xL2, xL3]; rfl) (by kernel_rfl) (by kernel_rfl) (by kernel_rfl) (by exact fun _ _ _ h => h) (Or.inl ⟨by rfl, ?_⟩) (by assumption) ?_
   rotate_left
   ·(intro w hSw; (try dsimp only at hSw); go_simp; (try with_reducible rfl))
   (try simp only [Act.put, xL4, xL5, xL6])
   refine wpAnyH_take (i := 4) (v := ?_) (by simp only [xL1, xL2, xL3]; rfl) (by kernel_rfl) (by kernel_rfl) (by kernel_rfl) (by exact fun _ _ _ h => h) (Or.inl ⟨by rfl, ?_⟩) (by assumption) ?_
   rotate_left
   ·(intro w hSw; (try dsimp only at hSw); go_simp; (try with_reducible rfl))
   (try simp only [Act.put, xL4, xL5, xL6])
   refine wpAnyH_take (i := 5) (v := ?_) (by simp only [xL1, xL2, xL3]; rfl) (by kernel_rfl) (by kernel_rfl) (by kernel_rfl) (by exact fun _ _ _ h => h) (Or.inl ⟨by rfl, ?_⟩) (by assumption) ?_
   rotate_left
   ·(intro w hSw; (try dsimp only at hSw); go_simp; (try with_reducible rfl))
   (try simp only [Act.put, xL4, xL5, xL6])
   refine wpAnyH_take (i := 6) (v := ?_) (by simp only [xL1, xL2, xL3]; rfl) (by kernel_rfl) (by kernel_rfl) (by kernel_rfl) (by exact fun _ _ _ h => h) (Or.inl ⟨by rfl, ?_⟩) (by assumption) ?_
   rotate_left
   ·(intro w hSw; (try dsimp only at hSw); go_simp; (try with_reducible rfl))
   (try simp only [Act.put, xL4, xL5, xL6])
   refine wpAnyH_take (i := 7) (v := ?_) (by simp only [xL1, xL2, xL3]; rfl) (by kernel_rfl) (by kernel_rfl) (by kernel_rfl) (by exact fun _ _ _ h => h) (Or.inl ⟨by rfl, ?_⟩) (by assumption) ?_
   rotate_left
   ·(intro w hSw; (try dsimp only at hSw); go_simp; (try with_reducible rfl))
   (try simp only [Act.put, xL4, xL5, xL6])
   refine wpAnyH_ready (rs := [8]) (by kernel_rfl) (by simp) ?_
   refine AllReadyH.cons (by simp only [xL1, xL2, xL3]; rfl) (fun K hK => ?_) AllReadyH.nil
   go_simp
   refine (is4_at _ _ (N 0) n (C 0) q1 8000 _ F0 (QA.le (by omega)) s0 ht (by omega) (by omega) (by omega) (by omega) (fun _ => p0) HE0.out).mono ?_
   rintro e w61 ⟨rfl, b61⟩
   go_wp2_with fail
   replace ht := ht.below b61
   replace QA := QA.below b61
   replace DR := DR.below b61
   replace X0 := X0.below b61
   replace F0 := F0.below b61
   replace X1 := X1.below b61
   replace F1 := F1.below b61
   replace BB := BB.trans (b61.mono BB.size)
   clear b61
   refine hK.out _ _ ?_ (fun hH1 => ?_)
   ·exact ⟨X0.cell, X1.cell⟩
   clear hK K hHeld
   (try simp only [Act.put, xL4, xL5, xL6])
   refine wpAnyH_take (i := 9) (v := ?_) (by simp only [xL1, xL2, xL3]; rfl) (by kernel_rfl) (by kernel_rfl) (by kernel_rfl) (by exact fun _ _ _ h => h) (Or.inl ⟨by rfl, ?_⟩) (by assumption) ?_
   rotate_left
   ·(intro w hSw; (try dsimp only at hSw); go_simp; (try with_reducible rfl))
   (try simp only [Act.put, xL4, xL5, xL6])
   refine wpAnyH_take (i := 10) (v := ?_) (by simp only [xL1, xL2, xL3]; rfl) (by kernel_rfl) (by kernel_rfl) (by kernel_rfl) (by exact fun _ _ _ h => h) (Or.inl ⟨by rfl, ?_⟩) (by assumption) ?_
   rotate_left
   ·(intro w hSw; (try dsimp only at hSw); go_simp; (try with_reducible rfl))
   (try simp only [Act.put, xL4, xL5, xL6])
   refine wpAnyH_take (i := 11) (v := ?_) (by simp only [xL1, xL2, xL3]; rfl) (by kernel_rfl) (by kernel_rfl) (by kernel_rfl) (by exact fun _ _ _ h => h) (Or.inl ⟨by rfl, ?_⟩) (by assumption) ?_
   rotate_left
   ·(intro w hSw; (try dsimp only at hSw); go_simp; (try with_reducible rfl))
   (try simp only [Act.put, xL4, xL5, xL6])
   refine wpAnyH_take (i := 12) (v := ?_) (by simp only [xL1, xL2, xL3]; rfl) (by kernel_rfl) (by kernel_rfl) (by kernel_rfl) (by exact fun _ _ _ h => h) (Or.inl ⟨by rfl, ?_⟩) (by assumption) ?_
   rotate_left
   ·(intro w hSw; (try dsimp only at hSw); go_simp; (try with_reducible rfl))
   (try simp only [Act.put, xL4, xL5, xL6])
   refine wpAnyH_take (i := 13) (v := ?_) (by simp only [xL1, xL2, xL3]; rfl) (by kernel_rfl) (by kernel_rfl) (by kernel_rfl) (by exact fun _ _ _ h => h) (Or.inl ⟨by rfl, ?_⟩) (by assumption) ?_
   rotate_left
   ·(intro w hSw; (try dsimp only at hSw); go_simp; (try with_reducible rfl))
   (try simp only [Act.put, xL4, xL5, xL6])
   refine wpAnyH_take (i := 14) (v := ?_) (by simp only [xL1, xL2, xL3]; rfl) (by kernel_rfl) (by kernel_rfl) (by kernel_rfl) (by exact fun _ _ _ h => h) (Or.inl ⟨by rfl, ?_⟩) (by assumption) ?_
   rotate_left
   ·(intro w hSw; (try dsimp only at hSw); go_simp; (try with_reducible rfl))
   (try simp only [Act.put, xL4, xL5, xL6])
   refine wpAnyH_take (i := 15) (v := ?_) (by simp only [xL1, xL2, xL3]; rfl) (by kernel_rfl) (by kernel_rfl) (by kernel_rfl) (by exact fun _ _ _ h => h) (Or.inl ⟨by rfl, ?_⟩) (by assumption) ?_
   rotate_left
   ·(intro w hSw; (try dsimp only at hSw); go_simp; (try with_reducible rfl))
   (try simp only [Act.put, xL4, xL5, xL6])
   refine wpAnyH_take (i := 16) (v := undef) (by simp only [xL1, xL2, xL3]; rfl) (by kernel_rfl) (by kernel_rfl) (by kernel_rfl) (by exact fun _ _ _ h => h) (Or.inr ⟨by rfl, rfl⟩) (by assumption) ?_
   (try simp only [Act.put, xL4, xL5, xL6])
   refine wpAnyH_take (i := 17) (v := undef) (by simp only [xL1, xL2, xL3]; rfl) (by kernel_rfl) (by kernel_rfl) (by kernel_rfl) (by exact fun _ _ _ h => h) (Or.inr ⟨by rfl, rfl⟩) (by assumption) ?_
   (try simp only [Act.put, xL4, xL5, xL6])
   refine wpAnyH_take (i := 18) (v := undef) (by simp only [xL1, xL2, xL3]; rfl) (by kernel_rfl) (by kernel_rfl) (by kernel_rfl) (by exact fun _ _ _ h => h) (Or.inr ⟨by rfl, rfl⟩) (by assumption) ?_
   (try simp only [Act.put, xL4, xL5, xL6])
   refine wpAnyH_take (i := 19) (v := ?_) (by simp only [xL1, xL2, xL3]; rfl) (by kernel_rfl) (by kernel_rfl) (by kernel_rfl) (by exact fun _ _ _ h => h) (Or.inl ⟨by rfl, ?_⟩) (by assumption) ?_
   rotate_left
   ·(intro w hSw; (try dsimp only at hSw); go_simp; (try with_reducible rfl))
   (try simp only [Act.put, xL4, xL5, xL6])
   refine wpAnyH_take (i := 20) (v := ?_) (by simp only [xL1, xL2, xL3]; rfl) (by kernel_rfl) (by kernel_rfl) (by kernel_rfl) (by exact fun _ _ _ h => h) (Or.inl ⟨by rfl, ?_⟩) (by assumption) ?_
   rotate_left
   ·(intro w hSw; (try dsimp only at hSw); go_simp; (try with_reducible rfl))
   (try simp only [Act.put, xL4, xL5, xL6])
   refine wpAnyH_take (i := 21) (v := ?_) (by simp only [xL1, xL2, xL3]; rfl) (by kernel_rfl) (by kernel_rfl) (by kernel_rfl) (by exact fun _ _ _ h => h) (Or.inl ⟨by rfl, ?_⟩) (by assumption) ?_
   rotate_left
   ·(intro w hSw; (try dsimp only at hSw); go_simp; (try with_reducible rfl))
   (try simp only [Act.put, xL4, xL5, xL6])
   refine wpAnyH_take (i := 22) (v := ?_) (by simp only [xL1, xL2, xL3]; rfl) (by kernel_rfl) (by kernel_rfl) (by kernel_rfl) (by exact fun _ _ _ h => h) (Or.inl ⟨by rfl, ?_⟩) (by assumption) ?_
   rotate_left
   ·(intro w hSw; (try dsimp only at hSw); go_simp; (try with_reducible rfl))
   (try simp only [Act.put, xL4, xL5, xL6])
   refine wpAnyH_take (i := 23) (v := ?_) (by simp only [xL1, xL2, xL3]; rfl) (by kernel_rfl) (by kernel_rfl) (by kernel_rfl) (by exact fun _ _ _ h => h) (Or.inl ⟨by rfl, ?_⟩) (by assumption) ?_
   rotate_left
   ·(intro w hSw; (try dsimp only at hSw); go_simp; (try with_reducible rfl))
   (try simp only [Act.put, xL4, xL5, xL6])
   refine wpAnyH_take (i := 24) (v := ?_) (by simp only [xL1, xL2, xL3]; rfl) (by kernel_rfl) (by kernel_rfl) (by kernel_rfl) (by exact fun _ _ _ h => h) (Or.inl ⟨by rfl, ?_⟩) (by assumption) ?_
   rotate_left
   ·(intro w hSw; (try dsimp only at hSw); go_simp; (try with_reducible rfl))
   (try simp only [Act.put, xL4, xL5, xL6])
   refine wpAnyH_take (i := 25) (v := ?_) (by simp only [xL1, xL2, xL3]; rfl) (by kernel_rfl) (by kernel_rfl) (by kernel_rfl) (by exact fun _ _ _ h => h) (Or.inl ⟨by rfl, ?_⟩) (by assumption) ?_
   rotate_left
   ·(intro w hSw; (try dsimp only at hSw); go_simp; (try with_reducible rfl))
   (try simp only [Act.put, xL4, xL5, xL6])
   refine wpAnyH_take (i := 26) (v := ?_) (by simp only [xL1, xL2, xL3]; rfl) (by kernel_rfl) (by kernel_rfl) (by kernel_rfl) (by exact fun _ _ _ h => h) (Or.inl ⟨by rfl, ?_⟩) (by assumption) ?_
   rotate_left
   ·(intro w hSw; (try dsimp only at hSw); go_simp; (try with_reducible rfl))
   (try simp only [Act.put, xL4, xL5, xL6])
   refine wpAnyH_take (i := 27) (v := ?_) (by simp only [xL1, xL2, xL3]; rfl) (by kernel_rfl) (by kernel_rfl) (by kernel_rfl) (by exact fun _ _ _ h => h) (Or.inl ⟨by rfl, ?_⟩) (by assumption) ?_
   rotate_left
   ·(intro w hSw; (try dsimp only at hSw); go_simp; (try with_reducible rfl))
   (try simp only [Act.put, xL4, xL5, xL6])
   refine wpAnyH_take (i := 28) (v := ?_) (by simp only [xL1, xL2, xL3]; rfl) (by kernel_rfl) (by kernel_rfl) (by kernel_rfl) (by exact fun _ _ _ h => h) (Or.inl ⟨by rfl, ?_⟩) (by assumption) ?_
   rotate_left
   ·(intro w hSw; (try dsimp only at hSw); go_simp; (try with_reducible rfl))
   (try simp only [Act.put, xL4, xL5, xL6])
   refine wpAnyH_take (i := 29) (v := ?_) (by simp only [xL1, xL2, xL3]; rfl) (by kernel_rfl) (by kernel_rfl) (by kernel_rfl) (by exact fun _ _ _ h => h) (Or.inl ⟨by rfl, ?_⟩) (by assumption) ?_
   rotate_left
   ·(intro w hSw; (try dsimp only at hSw); go_simp; (try with_reducible rfl))
   (try simp only [Act.put, xL4, xL5, xL6])
   refine wpAnyH_ready (rs := [30]) (by kernel_rfl) (by simp) ?_
   refine AllReadyH.cons (by simp only [xL1, xL2, xL3]; rfl) (fun K hK => ?_) AllReadyH.nil
   go_simp
   refine (pderive_at _ n q1 2 _ QA ht (by omega) (by omega) (by omega)).mono ?_
   rintro e w62 ⟨xd, rfl, FD_, b62⟩
   have FD := FD_.1
   clear FD_
   rw [HN1.out] at FD
   go_wp2_with fail
   replace ht := ht.below b62
   replace QA := QA.below b62
   replace DR := DR.below b62
   replace X0 := X0.below b62
   replace F0 := F0.below b62
   replace X1 := X1.below b62
   replace F1 := F1.below b62
   replace BB := BB.trans (b62.mono BB.size)
   clear b62
   refine hK.out _ _ ?_ (fun hH2 => ?_)
   ·exact ⟨X0.cell, X1.cell⟩
   clear hK K hH1
   (try simp only [Act.put, xL4, xL5, xL6])
   refine wpAnyH_ready (rs := [31]) (by kernel_rfl) (by simp) ?_
   refine AllReadyH.cons (by simp only [xL1, xL2, xL3]; rfl) (fun K hK => ?_) AllReadyH.nil
   go_simp
   refine (psame_at _ _ (N 1) (N 1) (C 1) (fun i => q1 (i + 1) * (((i + 1 : Nat) : Int) : Rat)) 8000 _ (F1.q 8000 s1) (FD.q 8000 (fun i hi => by rw [← HC1.out i]; exact s1 i hi)) (by omega) (by omega) (by omega) (by omega)).mono ?_
   rintro e w63 ⟨rfl, b63⟩
   rw [show trimN (fun i => q1 (i + 1) * (((i + 1 : Nat) : Int) : Rat)) (N 1) = N 1 from trimN_self HN1.out, HT1.out, eqN_yes (fun i _ => HC1.out i)]
   go_wp2_with fail
   replace ht := ht.below b63
   replace QA := QA.below b63
   replace DR := DR.below b63
   replace X0 := X0.below b63
   replace F0 := F0.below b63
   replace X1 := X1.below b63
   replace F1 := F1.below b63
   replace FD := FD.below b63
   replace BB := BB.trans (b63.mono BB.size)
   clear b63
   refine hK.out _ _ ?_ (fun hH3 => ?_)
   ·exact ⟨X0.cell, X1.cell⟩
   clear hK K hH2
   (try simp only [Act.put, xL4, xL5, xL6])
   refine wpAnyH_take (i := 32) (v := ?_) (by simp only [xL1, xL2, xL3]; rfl) (by kernel_rfl) (by kernel_rfl) (by kernel_rfl) (by exact fun _ _ _ h => h) (Or.inl ⟨by rfl, ?_⟩) (by assumption) ?_
   rotate_left
   ·(intro w hSw; (try dsimp only at hSw); go_simp; (try with_reducible rfl))
   (try simp only [Act.put, xL4, xL5, xL6])
   refine wpAnyH_take (i := 33) (v := ?_) (by simp only [xL1, xL2, xL3]; rfl) (by kernel_rfl) (by kernel_rfl) (by kernel_rfl) (by exact fun _ _ _ h => h) (Or.inl ⟨by rfl, ?_⟩) (by assumption) ?_
   rotate_left
   ·(intro w hSw; (try dsimp only at hSw); go_simp; (try with_reducible rfl))
   (try simp only [Act.put, xL4, xL5, xL6])
   refine wpAnyH_take (i := 34) (v := ?_) (by simp only [xL1, xL2, xL3]; rfl) (by kernel_rfl) (by kernel_rfl) (by kernel_rfl) (by exact fun _ _ _ h => h) (Or.inl ⟨by rfl, ?_⟩) (by assumption) ?_
   rotate_left
   ·(intro w hSw; (try dsimp only at hSw); go_simp; (try with_reducible rfl))
   (try simp only [Act.put, xL4, xL5, xL6])
   refine wpAnyH_done (by kernel_rfl) ?_ _
   clear hH3
   clear FD F0 F1 X0 X1
   go_wp2
   have BW : Hid (Below w.heap.size w w63) := BB
   have DR0 := DR
   have ht0 := ht
   clear BB DR ht QA
   go_loopw [4] (fun vi wr => ∃ i : Nat, 2 ≤ i ∧ i ≤ T ∧ vi = .int .i64 (i : Int) ∧ Below w63.heap.size w63 wr) (fun vi _ => T - (intOf vi).toNat)
   case atStart => exact ⟨2, by omega, by omega, rfl, Below.refl _ _⟩
   case round =>
    obtain ⟨i, hi2, hiT, rfl, BBl⟩ := hrel
    have DR := DR0.below BBl
    have ht := ht0.below BBl
    have BB := BBl
    obtain ⟨j, hij⟩ : ∃ j, i = j + 2 := ⟨i - 2, by omega⟩
    obtain ⟨k, hkj⟩ : ∃ k, k = j + 1 := ⟨_, rfl⟩
    have e1 : (i : Int) ≤ (T : Int) := by omega
    have e2 : decide ((i : Int) ≤ (T : Int)) = true := decide_eq_true e1
    have e3 : (i : Int) - 2 = (j : Int) := by omega
    have e4 : IntKind.i64.wrap (j : Int) = (j : Int) := by rw [IntKind.wrap_i64]; omega
    have e5 : (i : Int) - 1 = (k : Int) := by omega
    have e6 : IntKind.i64.wrap (k : Int) = (k : Int) := by rw [IntKind.wrap_i64]; omega
    have e7 : (0 : Int) ≤ (j : Int) := by omega
    have e8 : (j : Int) < (T : Int) := by omega
    have e9 : (0 : Int) ≤ (k : Int) := by omega
    have e10 : (k : Int) < (T : Int) := by omega
    have hjT : j < T := by omega
    have hkT : k < T := by omega
    obtain ⟨aj, cj, XJ, FJ⟩ := DR.at j hjT
    obtain ⟨ak, ck, XK, FK⟩ := DR.at k hkT
    have sj := HF.out.sz j hjT
    have sk := HF.out.sz k hkT
    have HTJ : Hid (trimN (C j) (N j) = N j) := trimN_full _ _ (fun _ => HF.out.top j hjT)
    have HTK : Hid (trimN (C k) (N k) = N k) := trimN_full _ _ (fun _ => HF.out.top k hkT)
    have hpk := HF.out.pos k hkT
    have htk := HF.out.top k hkT
    have hj6 := HF.out.six j
    have hk6 := HF.out.six k
    have hi6 := HF.out.six i
    have HALL : Hid (allS (N j) (C k) (N k - 1) 40000 (N j - (N k - 1)) (C j)) := by rw [hkj]; exact HF.out.all j (by omega)
    have HLEN : Hid (trimN (divR (C k) (N k - 1) (N j - (N k - 1)) (C j)) (min (N j) (N k - 1)) = N i) := by rw [hkj, hij]; exact HF.out.len j (by omega)
    have HSR : Hid (∀ x, x < N i → qsz ((divR (C k) (N k - 1) (N j - (N k - 1)) (C j)) x) ≤ 8000) := by rw [hkj, hij]; exact HF.out.szr j (by omega)
    have HKJ : Hid (k = j + 1) := hkj
    have HIJ : Hid (i = j + 2) := hij
    clear hkj hij
    go_wp2
    have hDr : Below wr.heap.size wr wr.drew := (Below.refl _ _).drew
    replace DR := DR.below hDr
    replace ht := ht.below hDr
    replace XJ := XJ.below hDr
    replace FJ := FJ.below hDr
    replace XK := XK.below hDr
    replace FK := FK.below hDr
    replace BB := BB.trans (hDr.mono BB.size)
    clear hDr
    refine wp_region_held_drew (S := (fun w' => w'.cell? ⟨gl, j, none⟩ = some (.slice aj (N j) cj) ∧ w'.cell? ⟨gl, k, none⟩ = some (.slice ak (N k) ck))) (by kernel_rfl) ?_ (fun hHeld => ?_)
    ·exact ⟨XJ.cell, XK.cell⟩
    generalize wr.drew = W81 at *
    refine wpAnyH_take (i := 0) (v := ?_) (by simp only [xL1, xL2, xL3]; rfl) (by kernel_rfl) (by kernel_rfl) (by kernel_rfl) (by exact fun _ _ _ h => h) (Or.inl ⟨by rfl, ?_⟩) (by assumption) ?_
    rotate_left
    ·(intro w hSw; (try dsimp only at hSw); go_simp; (try with_reducible rfl))
    (try simp only [Act.put, xL4, xL5, xL6])
    refine wpAnyH_take (i := 1) (v := ?_) (by simp only [xL1, xL2, xL3]; rfl) (by kernel_rfl) (by kernel_rfl) (by kernel_rfl) (by exact fun _ _ _ h => h) (Or.inl ⟨by rfl, ?_⟩) (by assumption) ?_
    rotate_left
    ·(intro w hSw; (try dsimp only at hSw); go_simp; (try with_reducible rfl))
    (try simp only [Act.put, xL4, xL5, xL6])
    refine wpAnyH_take (i := 2) (v := ?_) (by simp only [xL1, xL2, xL3]; rfl) (by kernel_rfl) (by kernel_rfl) (by kernel_rfl) (by exact fun _ _ _ h => h) (Or.inl ⟨by rfl, ?_⟩) (by assumption) ?_
    rotate_left
    ·(intro w hSw; (try dsimp only at hSw); go_simp; (try with_reducible rfl))
    (try simp only [Act.put, xL4, xL5, xL6])
    refine wpAnyH_take (i := 3) (v := ?_) (by simp only [xL1, xL2, xL3]; rfl) (by kernel_rfl) (by kernel_rfl) (by kernel_rfl) (by exact fun _ _ _ h => h) (Or.inl ⟨by rfl, ?_⟩) (by assumption) ?_
    rotate_left
    ·(intro w hSw; (try dsimp only at hSw); go_simp; (try with_reducible rfl))
    (try simp only [Act.put, xL4, xL5, xL6])
    refine wpAnyH_take (i := 4) (v := ?_) (by simp only [xL1, xL2, xL3]; rfl) (by kernel_rfl) (by kernel_rfl) (by kernel_rfl) (by exact fun _ _ _ h => h) (Or.inl ⟨by rfl, ?_⟩) (by assumption) ?_
    rotate_left
    ·(intro w hSw; (try dsimp only at hSw); go_simp; (try with_reducible rfl))
    (try simp only [Act.put, xL4, xL5, xL6])
    refine wpAnyH_take (i := 5) (v := ?_) (by simp only [xL1, xL2, xL3]; rfl) (by kernel_rfl) (by kernel_rfl) (by kernel_rfl) (by exact fun _ _ _ h => h) (Or.inl ⟨by rfl, ?_⟩) (by assumption) ?_
    rotate_left
    ·(intro w hSw; (try dsimp only at hSw); go_simp; (try with_reducible rfl))
    (try simp only [Act.put, xL4, xL5, xL6])
    refine wpAnyH_take (i := 6) (v := ?_) (by simp only [xL1, xL2, xL3]; rfl) (by kernel_rfl) (by kernel_rfl) (by kernel_rfl) (by exact fun _ _ _ h => h) (Or.inl ⟨by rfl, ?_⟩) (by assumption) ?_
    rotate_left
    ·(intro w hSw; (try dsimp only at hSw); go_simp; (try with_reducible rfl))
    (try simp only [Act.put, xL4, xL5, xL6])
    refine wpAnyH_take (i := 7) (v := ?_) (by simp only [xL1, xL2, xL3]; rfl) (by kernel_rfl) (by kernel_rfl) (by kernel_rfl) (by exact fun _ _ _ h => h) (Or.inl ⟨by rfl, ?_⟩) (by assumption) ?_
    rotate_left
    ·(intro w hSw; (try dsimp only at hSw); go_simp; (try with_reducible rfl))
    (try simp only [Act.put, xL4, xL5, xL6])
    refine wpAnyH_take (i := 8) (v := ?_) (by simp only [xL1, xL2, xL3]; rfl) (by kernel_rfl) (by kernel_rfl) (by kernel_rfl) (by exact fun _ _ _ h => h) (Or.inl ⟨by rfl, ?_⟩) (by assumption) ?_
    rotate_left
    ·(intro w hSw; (try dsimp only at hSw); go_simp; (try with_reducible rfl))
    (try simp only [Act.put, xL4, xL5, xL6])
    refine wpAnyH_take (i := 9) (v := ?_) (by simp only [xL1, xL2, xL3]; rfl) (by kernel_rfl) (by kernel_rfl) (by kernel_rfl) (by exact fun _ _ _ h => h) (Or.inl ⟨by rfl, ?_⟩) (by assumption) ?_
    rotate_left
    ·(intro w hSw; (try dsimp only at hSw); go_simp; (try with_reducible rfl))
    (try simp only [Act.put, xL4, xL5, xL6])
    refine wpAnyH_ready (rs := [10]) (by kernel_rfl) (by simp) ?_
    refine AllReadyH.cons (by simp only [xL1, xL2, xL3]; rfl) (fun K hK => ?_) AllReadyH.nil
    go_simp
    refine (pdivmod_S _ _ (N j) (N k) (N j) (N k) (C j) (C k) 8000 40000 _ (FJ.q 8000 sj) (FK.q 8000 sk) ht (by omega) (by omega) (by omega) (by omega) HTJ.out HTK.out (by omega) (by omega) sk hpk htk (by omega) (by omega) HALL.out).mono ?_
    rintro e w81 ⟨xq, xr, rfl, FQ, FR, b81⟩
    clear FQ
    rw [HLEN.out] at FR
    obtain ⟨ar, cr, rfl⟩ := FR.open
    go_wp2_with fail
    replace DR := DR.below b81
    replace ht := ht.below b81
    replace XJ := XJ.below b81
    replace FJ := FJ.below b81
    replace XK := XK.below b81
    replace FK := FK.below b81
    replace BB := BB.trans (b81.mono BB.size)
    clear b81
    refine hK.out _ _ ?_ (fun hH1 => ?_)
    ·exact ⟨XJ.cell, XK.cell⟩
    clear hK K hHeld
    (try simp only [Act.put, xL4, xL5, xL6])
    refine wpAnyH_take (i := 11) (v := ?_) (by simp only [xL1, xL2, xL3]; rfl) (by kernel_rfl) (by kernel_rfl) (by kernel_rfl) (by exact fun _ _ _ h => h) (Or.inl ⟨by rfl, ?_⟩) (by assumption) ?_
    rotate_left
    ·(intro w hSw; (try dsimp only at hSw); go_simp; (try with_reducible rfl))
    (try simp only [Act.put, xL4, xL5, xL6])
    refine wpAnyH_take (i := 12) (v := ?_) (by simp only [xL1, xL2, xL3]; rfl) (by kernel_rfl) (by kernel_rfl) (by kernel_rfl) (by exact fun _ _ _ h => h) (Or.inl ⟨by rfl, ?_⟩) (by assumption) ?_
    rotate_left
    ·(intro w hSw; (try dsimp only at hSw); go_simp; (try with_reducible rfl))
    (try simp only [Act.put, xL4, xL5, xL6])
    refine wpAnyH_take (i := 13) (v := ?_) (by simp only [xL1, xL2, xL3]; rfl) (by kernel_rfl) (by kernel_rfl) (by kernel_rfl) (by exact fun _ _ _ h => h) (Or.inl ⟨by rfl, ?_⟩) (by assumption) ?_
    rotate_left
    ·(intro w hSw; (try dsimp only at hSw); go_simp; (try with_reducible rfl))
    (try simp only [Act.put, xL4, xL5, xL6])
    refine wpAnyH_take (i := 14) (v := ?_) (by simp only [xL1, xL2, xL3]; rfl) (by kernel_rfl) (by kernel_rfl) (by kernel_rfl) (by exact fun _ _ _ h => h) (Or.inl ⟨by rfl, ?_⟩) (by assumption) ?_
    rotate_left
    ·(intro w hSw; (try dsimp only at hSw); go_simp; (try with_reducible rfl))
    (try simp only [Act.put, xL4, xL5, xL6])
    refine wpAnyH_take (i := 15) (v := ?_) (by simp only [xL1, xL2, xL3]; rfl) (by kernel_rfl) (by kernel_rfl) (by kernel_rfl) (by exact fun _ _ _ h => h) (Or.inl ⟨by rfl, ?_⟩) (by assumption) ?_
    rotate_left
    ·(intro w hSw; (try dsimp only at hSw); go_simp; (try with_reducible rfl))
    (try simp only [Act.put, xL4, xL5, xL6])
    refine wpAnyH_take (i := 16) (v := ?_) (by simp only [xL1, xL2, xL3]; rfl) (by kernel_rfl) (by kernel_rfl) (by kernel_rfl) (by exact fun _ _ _ h => h) (Or.inl ⟨by rfl, ?_⟩) (by assumption) ?_
    rotate_left
    ·(intro w hSw; (try dsimp only at hSw); go_simp; (try with_reducible rfl))
    (try simp only [Act.put, xL4, xL5, xL6])
    refine wpAnyH_take (i := 17) (v := ?_) (by simp only [xL1, xL2, xL3]; rfl) (by kernel_rfl) (by kernel_rfl) (by kernel_rfl) (by exact fun _ _ _ h => h) (Or.inl ⟨by rfl, ?_⟩) (by assumption) ?_
    rotate_left
    ·(intro w hSw; (try dsimp only at hSw); go_simp; (try with_reducible rfl))
    (try simp only [Act.put, xL4, xL5, xL6])
    refine wpAnyH_done (by kernel_rfl) ?_ _
    clear hH1
    clear XJ FJ XK FK
    by_cases hEnd : i = T
    ·have hz : N i = 0 := by rw [hEnd]; exact HF.out.zero
     rw [hz] at FR
     rw [hz]
     subst hEnd
     go_wp2_with fail
     refine (awake4_at _ ht).mono ?_
     rintro e w101 ⟨rfl, b101⟩
     replace DR := DR.below b101
     replace ht := ht.below b101
     replace FR := FR.below b101
     replace BB := BB.trans (b101.mono BB.size)
     clear b101
     go_wp2
     go_ret
     exact ⟨rfl, BW.out.trans (BB.mono BW.out.size)⟩
    ·have hiL : i < T := by omega
     have f1 : ¬ (i : Int) = (T : Int) := by omega
     have f2 : ((i : Int) == (T : Int)) = false := by simp; omega
     have hpi := HF.out.pos i hiL
     have f3 : ¬ (N i : Int) = 0 := by omega
     have f4 : ((N i : Int) == 0) = false := by simp; omega
     have f5 : (0 : Int) ≤ (i : Int) := by omega
     have f6 : (i : Int) < (T : Int) := by omega
     obtain ⟨ai, ci, XI, FI⟩ := DR.at i hiL
     have si := HF.out.sz i hiL
     have HTI : Hid (trimN (C i) (N i) = N i) := trimN_full _ _ (fun _ => HF.out.top i hiL)
     have HNEG : Hid (∀ x, C i x = (fun x => (divR (C k) (N k - 1) (N j - (N k - 1)) (C j)) x * ((-1 : Int) : Rat)) x) := by rw [HKJ.out, HIJ.out]; exact HF.out.neg j (by have := HIJ.out; omega)
     have HTS : Hid (trimN (fun x => (divR (C k) (N k - 1) (N j - (N k - 1)) (C j)) x * ((-1 : Int) : Rat)) (N i) = N i) := by rw [show (fun x => (divR (C k) (N k - 1) (N j - (N k - 1)) (C j)) x * ((-1 : Int) : Rat)) = C i from funext (fun x => (HNEG.out x).symm)]; exact HTI.out
     go_wp2
     have hDr : Below w81.heap.size w81 w81.drew := (Below.refl _ _).drew
     replace DR := DR.below hDr
     replace ht := ht.below hDr
     replace FR := FR.below hDr
     replace XI := XI.below hDr
     replace FI := FI.below hDr
     replace BB := BB.trans (hDr.mono BB.size)
     clear hDr
     refine wp_region_held_drew (S := (fun w' => w'.cell? ⟨gl, i, none⟩ = some (.slice ai (N i) ci))) (by kernel_rfl) ?_ (fun hHeld => ?_)
     ·exact XI.cell
     generalize w81.drew = W121 at *
     refine wpAnyH_take (i := 0) (v := ?_) (by simp only [xL1, xL2, xL3]; rfl) (by kernel_rfl) (by kernel_rfl) (by kernel_rfl) (by exact fun _ _ _ h => h) (Or.inl ⟨by rfl, ?_⟩) (by assumption) ?_
     rotate_left
     ·(intro w hSw; (try dsimp only at hSw); go_simp; (try with_reducible rfl))
     (try simp only [Act.put, xL4, xL5, xL6])
     refine wpAnyH_take (i := 1) (v := ?_) (by simp only [xL1, xL2, xL3]; rfl) (by kernel_rfl) (by kernel_rfl) (by kernel_rfl) (by exact fun _ _ _ h => h) (Or.inl ⟨by rfl, ?_⟩) (by assumption) ?_
     rotate_left
     ·(intro w hSw; (try dsimp only at hSw); go_simp; (try with_reducible rfl))
     (try simp only [Act.put, xL4, xL5, xL6])
     refine wpAnyH_take (i := 2) (v := ?_) (by simp only [xL1, xL2, xL3]; rfl) (by kernel_rfl) (by kernel_rfl) (by kernel_rfl) (by exact fun _ _ _ h => h) (Or.inl ⟨by rfl, ?_⟩) (by assumption) ?_
     rotate_left
     ·(intro w hSw; (try dsimp only at hSw); go_simp; (try with_reducible rfl))
     (try simp only [Act.put, xL4, xL5, xL6])
     refine wpAnyH_take (i := 3) (v := ?_) (by simp only [xL1, xL2, xL3]; rfl) (by kernel_rfl) (by kernel_rfl) (by kernel_rfl) (by exact fun _ _ _ h => h) (Or.inl ⟨by rfl, ?_⟩) (by assumption) ?_
     rotate_left
     ·(intro w hSw; (try dsimp only at hSw); go_simp; (try with_reducible rfl))
     (try simp only [Act.put, xL4, xL5, xL6])
     refine wpAnyH_take (i := 4) (v := ?_) (by simp only [xL1, xL2, xL3]; rfl) (by kernel_rfl) (by kernel_rfl) (by kernel_rfl) (by exact fun _ _ _ h => h) (Or.inl ⟨by rfl, ?_⟩) (by assumption) ?_
     rotate_left
     ·(intro w hSw; (try dsimp only at hSw); go_simp; (try with_reducible rfl))
     (try simp only [Act.put, xL4, xL5, xL6])
     refine wpAnyH_take (i := 5) (v := ?_) (by simp only [xL1, xL2, xL3]; rfl) (by kernel_rfl) (by kernel_rfl) (by kernel_rfl) (by exact fun _ _ _ h => h) (Or.inl ⟨by rfl, ?_⟩) (by assumption) ?_
     rotate_left
     ·(intro w hSw; (try dsimp only at hSw); go_simp; (try with_reducible rfl))
     (try simp only [Act.put, xL4, xL5, xL6])
     refine wpAnyH_take (i := 6) (v := ?_) (by simp only [xL1, xL2, xL3]; rfl) (by kernel_rfl) (by kernel_rfl) (by kernel_rfl) (by exact fun _ _ _ h => h) (Or.inl ⟨by rfl, ?_⟩) (by assumption) ?_
     rotate_left
     ·(intro w hSw; (try dsimp only at hSw); go_simp; (try with_reducible rfl))
     (try simp only [Act.put, xL4, xL5, xL6])
     refine wpAnyH_take (i := 7) (v := ?_) (by simp only [xL1, xL2, xL3]; rfl) (by kernel_rfl) (by kernel_rfl) (by kernel_rfl) (by exact fun _ _ _ h => h) (Or.inl ⟨by rfl, ?_⟩) (by assumption) ?_
     rotate_left
     ·(intro w hSw; (try dsimp only at hSw); go_simp; (try with_reducible rfl))
     (try simp only [Act.put, xL4, xL5, xL6])
     refine wpAnyH_take (i := 8) (v := ?_) (by simp only [xL1, xL2, xL3]; rfl) (by kernel_rfl) (by kernel_rfl) (by kernel_rfl) (by exact fun _ _ _ h => h) (Or.inl ⟨by rfl, ?_⟩) (by assumption) ?_
     rotate_left
     ·(intro w hSw; (try dsimp only at hSw); go_simp; (try with_reducible rfl))
     (try simp only [Act.put, xL4, xL5, xL6])
     refine wpAnyH_ready (rs := [9]) (by kernel_rfl) (by simp) ?_
     refine AllReadyH.cons (by simp only [xL1, xL2, xL3]; rfl) (fun K hK => ?_) AllReadyH.nil
     go_simp
     refine (qof_at (-1) _ (by omega) (by omega)).mono ?_
     rintro e w121 ⟨x9, rfl, h9, b121⟩
     go_wp2_with fail
     replace DR := DR.below b121
     replace ht := ht.below b121
     replace FR := FR.below b121
     replace XI := XI.below b121
     replace FI := FI.below b121
     replace BB := BB.trans (b121.mono BB.size)
     clear b121
     refine hK.out _ _ ?_ (fun hH1 => ?_)
     ·exact XI.cell
     clear hK K hHeld
     (try simp only [Act.put, xL4, xL5, xL6])
     refine wpAnyH_ready (rs := [10]) (by kernel_rfl) (by simp) ?_
     refine AllReadyH.cons (by simp only [xL1, xL2, xL3]; rfl) (fun K hK => ?_) AllReadyH.nil
     go_simp
     refine (pscale_at _ _ (N i) (divR (C k) (N k - 1) (N j - (N k - 1)) (C j)) ((-1 : Int) : Rat) 8000 _ (FR.q 8000 HSR.out) (h9.at 8000 (qsz_int _ (Nat.le_trans (show nl W32 ((-1 : Int)).natAbs ≤ 2 from (nl_two _).2 (by decide)) (by omega)) (by omega))) ht (by omega) (by omega) (by omega)).mono ?_
     rintro e w122 ⟨x10, rfl, FS_, b122⟩
     have FS := FS_.1
     clear FS_
     rw [HTS.out] at FS
     go_wp2_with fail
     replace DR := DR.below b122
     replace ht := ht.below b122
     replace FR := FR.below b122
     replace XI := XI.below b122
     replace FI := FI.below b122
     replace h9 := h9.below b122
     replace BB := BB.trans (b122.mono BB.size)
     clear b122
     refine hK.out _ _ ?_ (fun hH2 => ?_)
     ·exact XI.cell
     clear hK K hH1
     (try simp only [Act.put, xL4, xL5, xL6])
     refine wpAnyH_ready (rs := [11]) (by kernel_rfl) (by simp) ?_
     refine AllReadyH.cons (by simp only [xL1, xL2, xL3]; rfl) (fun K hK => ?_) AllReadyH.nil
     go_simp
     refine (psame_at _ _ (N i) (N i) (C i) (fun x => (divR (C k) (N k - 1) (N j - (N k - 1)) (C j)) x * ((-1 : Int) : Rat)) 8000 _ (FI.q 8000 si) (FS.q 8000 (fun x hx => by rw [← HNEG.out x]; exact si x hx)) (by omega) (by omega) (by omega) (by omega)).mono ?_
     rintro e w123 ⟨rfl, b123⟩
     rw [HTS.out, HTI.out, eqN_yes (fun x _ => HNEG.out x)]
     go_wp2_with fail
     replace DR := DR.below b123
     replace ht := ht.below b123
     replace FR := FR.below b123
     replace XI := XI.below b123
     replace FI := FI.below b123
     replace h9 := h9.below b123
     replace FS := FS.below b123
     replace BB := BB.trans (b123.mono BB.size)
     clear b123
     refine hK.out _ _ ?_ (fun hH3 => ?_)
     ·exact XI.cell
     clear hK K hH2
     (try simp only [Act.put, xL4, xL5, xL6])
     refine wpAnyH_take (i := 12) (v := ?_) (by simp only [xL1, xL2, xL3]; rfl) (by kernel_rfl) (by kernel_rfl) (by kernel_rfl) (by exact fun _ _ _ h => h) (Or.inl ⟨by rfl, ?_⟩) (by assumption) ?_
     rotate_left
     ·(intro w hSw; (try dsimp only at hSw); go_simp; (try with_reducible rfl))
     (try simp only [Act.put, xL4, xL5, xL6])
     refine wpAnyH_take (i := 13) (v := ?_) (by simp only [xL1, xL2, xL3]; rfl) (by kernel_rfl) (by kernel_rfl) (by kernel_rfl) (by exact fun _ _ _ h => h) (Or.inl ⟨by rfl, ?_⟩) (by assumption) ?_
     rotate_left
     ·(intro w hSw; (try dsimp only at hSw); go_simp; (try with_reducible rfl))
     (try simp only [Act.put, xL4, xL5, xL6])
     refine wpAnyH_done (by kernel_rfl) ?_ _
     clear hH3
     go_wp2
     go_roundw
     case rel => exact ⟨i + 1, by omega, by omega, by go_num, BB⟩
     case measure => simp [intOf]; omega

theorem own : ownKnob Tryz.prog.godebug = none := by kernel_rfl
theorem laidOut : laidOutB Tryz.prog = true := by kernel_rfl

abbrev laid1 : List (String × DataW Unit) := [("math/bits.deBruijn64tab", Rows.laid_math_bits_deBruijn64tab)]
theorem gTab : Tryz.prog.globalNamed "math/bits.deBruijn64tab" = some 0 := by kernel_rfl
theorem gTabType : (Tryz.prog.globals[0]?).map (·.type) = some 123 := by kernel_rfl
theorem uTab : Tryz.prog.underlying 123 = some (.array 64 5) := by kernel_rfl
theorem uCell : Tryz.prog.underlying 5 = some (.int .u8) := by kernel_rfl
theorem cCell : Tryz.prog.cellsOf 5 = 1 := by kernel_rfl
theorem cTab : Tryz.prog.cellsOf 123 = 64 := by kernel_rfl
/-- The listed table lies in its cells. -/
theorem tab_of {W : World} (h : laidMetH Tryz.prog laid1 W) : Tab W := by
 rw [MakeChecks.laidMetH_plain _ _ _ (by kernel_rfl)] at h
 have hd : laid1 = [("math/bits.deBruijn64tab", Lib.tabData .u8 (Lib.deBruijn64tab.map fun (n : Nat) => Int.ofNat n))] := rfl
 rw [hd] at h
 have hT := Lib.tabIs_of_head gTab gTabType uTab uCell cCell cTab h
 intro i hi
 have hc := hT.cell gTab i (by rw [List.length_map]; exact hi)
 rw [hc]
 congr 2
 rw [List.getD_eq_getElem?_getD, List.getElem?_map, List.getD_eq_getElem?_getD]
 cases Lib.deBruijn64tab[i]? <;> rfl
/-- A start for the witness: the heap that the run of the program's own initialisers leaves. -/
noncomputable def startW (os : Os) : World := { World.holding Tryz.prog os ⟨#[], #[], []⟩ with heap := (varsWorld Tryz.prog 400 (varsId Tryz.prog) os (fun _ _ => 0)).heap }
theorem start_met (os : Os) (args : Array Value) : laidMetH Tryz.prog laid1 ((startW os).forCall (fun _ _ => 0) ⟨#[], args, []⟩).memory :=
 laidMetH_of_parts3 (fuel := 8) (laidMet_of_run' 8 (by kernel_rfl) (by kernel_rfl)) (by kernel_rfl) (by kernel_rfl)

set_option maxRecDepth 100000 in
theorem lifted (os : Os) (started : os.Started) (H : Type) (enc : TypeId × Value → H) :
  ReturnsInHanded {} Tryz.checked os 3 .any (fun w args => (Rows.polyChainsSpec.pre enc Tryz.prog Tryz.f3 [] false w args ∧ laidMetH Tryz.prog laid1 w) ∧ sizedMet enc Tryz.prog Tryz.f3 (OpenSpec.ofChange Rows.polyChainsSpec) false w args) (Rows.polyChainsSpec.post enc Tryz.prog Tryz.f3 false true false false) := by
 refine returnsInHanded_of_change_and (C := Tryz.checked) (X := fun w _ => laidMetH Tryz.prog laid1 w) (fun _ _ _ hh h => h.of_heap hh) own started (by kernel_rfl) Tryz.func3
  (ChangeSpec.witness_shaped (enc := enc) (C := Tryz.checked) (os := os) (X := fun w _ => laidMetH Tryz.prog laid1 w) false (startW os) #[.slice none 0 0] 8 rfl (World.shaped_of_RefB (by kernel_rfl) (by kernel_rfl)) (by kernel_rfl) (by kernel_rfl) (by kernel_rfl) (start_met os _)) ?_
 intro W base args ds gs before hval0 hW _ _ hL _
 have hval : ∀ (j : Nat) t v, Tryz.f3.params[j]? = some t → args[j]? = some v → Value.okWide Tryz.prog W .any base t v := hval0
 have hW' := hW
 obtain ⟨p, q, hA0, hV, rfl, hfz, hnd⟩ := hW
 have hA : DataW.TrodAll enc Tryz.prog W 0 (fun _ => true) true Tryz.f3.params.toList args.toList ds p := hA0
 rw [Tryz.params3] at hA hval
 obtain ⟨v0, vs0, d0, ds0, p0, q0, hargs, rfl, rfl, h0, r0⟩ := trodAll_cons hA
 obtain ⟨rfl, rfl, rfl⟩ := trodAll_nil r0
 obtain rfl : args = #[v0] := by cases args; simp_all
 obtain ⟨rfl, rfl⟩ := trodVars_none hV
 have k0 := h0
 have lt0 : ∀ x ∈ p0, x.block < W.heap.size := by obtain ⟨m, hm⟩ := k0; exact DataW.trod_lt m _ _ _ hm
 obtain ⟨n0, z0, w0⟩ := open_wrats KLIST (hval 0 22 v0 rfl rfl) h0
 clear hA0 hval0
 refine (walk _ _ _ W w0 (tab_of hL)).mono fun e W' ⟨he, bel⟩ => ?_
 subst he
 exact ⟨_, rfl, _, _, _, [], _, [], hW', trodAll_mk1 (shut_bool Tryz.underlying4 _), (trodAll_cons_mk (Below.trod laidOut (by kernel_rfl) (of_decide_eq_true (by kernel_rfl)) k0 bel lt0) trodAll_mk0), rfl, bel.frame _, fun h => by cases h⟩

theorem over : Rows.polyChainsRow.holds Tryz.pinned (OpenSpec.ofChange Rows.polyChainsSpec) :=
 OpenClaim.holds_of_wide 3 Tryz.f3 rfl rfl rfl rfl rfl rfl rfl ⟨rfl, rfl, rfl, rfl, rfl⟩ rfl rfl rfl rfl rfl (by kernel_rfl) Tryz.func3 (by kernel_rfl)
  (of_decide_eq_true (by kernel_rfl)) (by unfold Func.isWrapper; first | (rw [if_pos (by decide +kernel)]; kernel_rfl) | (rw [if_neg (by decide +kernel)]; exact ⟨rfl, rfl⟩))
  (fun os started H enc _ => lifted os started H enc)

end Go.Proofs.YtnbocjbfieklhabGreatDoor.polyChains
namespace Go.Proofs.YtnbocjbfieklhabGreatDoor
/-- The statement: the row, tied to the text of the program. -/
theorem polyChains_holds : Rows.PolyChainsCardSaid :=
 Claim7.holds_tied_plain_at .later [] [.data] true (true, "b31e401f992273ffbadf862f04549d144c05f754ab65c7e44af6f6a8e926861e") false
  polyChains.over (fun _ h => by cases h) (by kernel_rfl) (fun _ h => by cases h) polyChains_row_tie rfl ⟨rfl, rfl⟩ (by kernel_rfl) rfl
  (fun f fn hf hfn => by
   obtain rfl : f = 3 := Option.some.inj ((show Tryz.prog.funcNamed "dendron/dendronlaw04.PolyChains" = some 3 by kernel_rfl).symm.trans hf) |>.symm
   obtain rfl : fn = Tryz.f3 := (Option.some.inj (Tryz.func3.symm.trans hfn)).symm
   exact ⟨by kernel_rfl, fun j t ht => by
    rw [Tryz.params3] at ht
    have hm : t ∈ [22] := by simpa using Array.mem_of_getElem? ht
    have hall : ([22].all fun u => !Tryz.prog.wantsStandIn u) = true := by kernel_rfl
    exact (show Tryz.prog.wantsStandIn t = false by simpa using List.all_eq_true.1 hall t hm)⟩)
  (by kernel_rfl)
end Go.Proofs.YtnbocjbfieklhabGreatDoor
