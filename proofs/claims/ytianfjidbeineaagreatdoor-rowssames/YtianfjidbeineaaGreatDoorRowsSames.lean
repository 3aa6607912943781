/-
  Proves that Same and Equal tell of any two entries, and of any two rows of up to 12, whether they are one, whatever comes in (the statement RowsSames, its tied card); the table of math/bits lies as the program's text lays it; no other condition.
-/
import Derived.Test.YtianfjidbeineaaGreatDoorRows
import Derived.Test.YtianfjidbeineaaGreatDoorJd35405b3f2
import Derived.Test.YtianfjidbeineaaGreatDoorJ2af40fd460
import Derived.WalkKit
import Derived.ProofKit
import Derived.OpenShut
import Derived.ShutString
import Derived.ChangeOld
import Derived.Below
import Derived.Test.YtianfjidbeineaaGreatDoorTie
import Derived.Test.YtianfjidbeineaaGreatDoorCards
import Derived.LaidByTextLater
import Derived.LaidHandle
import Derived.Lib.LaidTab
import Derived.SevenTiedAt
namespace Go.Proofs.YtianfjidbeineaaGreatDoor.rowsSames
open Go.ChangeShapes Go.WideShapes Go.ChangeAt Go.RowKit
open Go.ChangeMaps (open_string shut_string)
set_option linter.unusedVariables false
set_option linter.unusedSimpArgs false

set_option maxRecDepth 100000 in
set_option maxHeartbeats 8000000 in
theorem walk (u : Value) (n1 : Nat) (r1 : Nat → Cl) (v : Value) (n2 : Nat) (r2 : Nat → Cl) (w : World) (h1 : CRaw w u n1 r1 3) (h2 : CRaw w v n2 r2 3) (ht : Tab w) :
    Calls Tryz.prog 6 #[u, v] w fun e w' => e = .returned (.bool true) ∧ Below w.heap.size w w' := by
  have BB : Below w.heap.size w w := Below.refl _ _
  obtain ⟨a0, c0, rfl, _, _⟩ := h1.open
  obtain ⟨b0, d0, rfl, _, _⟩ := h2.open
  go_enter Tryz.func6, Tryz.ntmps6
  go_wp2_with fail
  refine (few9_at _ n1 12 r1 _ h1 (by omega)).mono ?_
  rintro e w1 ⟨ra, rfl, CA0, b1⟩
  replace ht := ht.below b1
  replace BB := BB.trans (b1.mono BB.size)
  clear b1
  obtain ⟨aa, ca, rfl⟩ := CA0.form
  have CA := CA0.row
  have h2 := h2.below BB
  clear CA0 h1
  go_wp2_with fail
  refine (few9_at _ n2 12 r2 _ h2 (by omega)).mono ?_
  rintro e w2 ⟨rb, rfl, CB0, b2⟩
  replace ht := ht.below b2
  replace CA := CA.below b2
  replace BB := BB.trans (b2.mono BB.size)
  clear b2
  obtain ⟨ab, cb, rfl⟩ := CB0.form
  have CB := CB0.row
  clear CB0 h2
  obtain ⟨n, hn⟩ : ∃ n, min n1 12 = n := ⟨_, rfl⟩
  obtain ⟨m, hm⟩ : ∃ m, min n2 12 = m := ⟨_, rfl⟩
  have hn12 : n ≤ 12 := by omega
  have hm12 : m ≤ 12 := by omega
  rw [hn] at CA ⊢
  rw [hm] at CB ⊢
  clear hn hm
  go_wp2
  have CA0 : Hid (CRow w2 (.slice aa n ca) n r1 3) := CA
  have CB0 : Hid (CRow w2 (.slice ab m cb) m r2 3) := CB
  have ht0 : Hid (Tab w2) := ht
  have BB0 : Hid (Below w.heap.size w w2) := BB
  obtain ⟨_, _, ea, ha1, ha2⟩ := CA.open
  cases ea
  obtain ⟨_, _, eb, hb1, hb2⟩ := CB.open
  cases eb
  clear CA CB ht BB
  go_loopw [5] (fun vi wr => ∃ i : Nat, i ≤ min n m ∧ vi = .int .i64 (i : Int) ∧ Below w2.heap.size w2 wr) (fun vi _ => min n m - (intOf vi).toNat)
  case atStart => exact ⟨0, by omega, rfl, Below.refl _ _⟩
  case round =>
    obtain ⟨i, hi, rfl, BB⟩ := hrel
    by_cases hlt : i < min n m
    · have hin : i < n := by omega
      have him : i < m := by omega
      have g1 : (i : Int) < (n : Int) := by omega
      have g2 : (i : Int) < (m : Int) := by omega
      have g0 : (0 : Int) ≤ (i : Int) := by omega
      obtain ⟨b1, off1, c91, p1, a1, n1_, c1, d1, m1_, e1, hv1, hcc1, hc61, X01, X11, X21, X31, q1⟩ := (CA0.out.below BB).at hin
      cases hv1
      obtain ⟨b2, off2, c92, p2, a2, n2_, c2, d2, m2_, e2, hv2, hcc2, hc62, X02, X12, X22, X32, q2⟩ := (CB0.out.below BB).at him
      cases hv2
      obtain ⟨ms1, hm1⟩ : ∃ z, (r1 i).miss = z := ⟨_, rfl⟩
      obtain ⟨ms2, hm2⟩ : ∃ z, (r2 i).miss = z := ⟨_, rfl⟩
      rw [hm1] at X01
      rw [hm2] at X02
      clear hm1 hm2
      have C1 : Quad9 wr b1 (off1 + i * 4) (.bool ms1) (.bool p1) (.slice a1 n1_ c1) (.slice d1 m1_ e1) := ⟨X01, X11, X21, X31⟩
      have C2 : Quad9 wr b2 (off2 + i * 4) (.bool ms2) (.bool p2) (.slice a2 n2_ c2) (.slice d2 m2_ e2) := ⟨X02, X12, X22, X32⟩
      clear X01 X11 X21 X31 X02 X12 X22 X32
      go_wp2
      have hDr : Below wr.heap.size wr wr.drew := (Below.refl _ _).drew
      replace C1 := C1.below hDr
      replace C2 := C2.below hDr
      replace q1 := q1.below hDr
      replace q2 := q2.below hDr
      replace BB := BB.trans (hDr.mono BB.size)
      clear hDr
      refine wp_region_held_drew (S := (fun w' => w'.cell? ⟨b1, off1 + i * 4, none⟩ = some (.bool ms1) ∧ w'.cell? ⟨b1, off1 + i * 4 + 1, none⟩ = some (.bool p1) ∧ w'.cell? ⟨b1, off1 + i * 4 + 2, none⟩ = some (.slice a1 n1_ c1) ∧ w'.cell? ⟨b1, off1 + i * 4 + 3, none⟩ = some (.slice d1 m1_ e1) ∧ w'.cell? ⟨b2, off2 + i * 4, none⟩ = some (.bool ms2) ∧ w'.cell? ⟨b2, off2 + i * 4 + 1, none⟩ = some (.bool p2) ∧ w'.cell? ⟨b2, off2 + i * 4 + 2, none⟩ = some (.slice a2 n2_ c2) ∧ w'.cell? ⟨b2, off2 + i * 4 + 3, none⟩ = some (.slice d2 m2_ e2))) (by kernel_rfl) ?_ (fun hHeld => ?_)
      · exact ⟨C1.out.1, C1.out.2.1, C1.out.2.2.1, C1.out.2.2.2, C2.out.1, C2.out.2.1, C2.out.2.2.1, C2.out.2.2.2⟩
      generalize wr.drew = W1 at *
      refine wpAnyH_take (i := 0) (v := ?_) (by simp only [List.getElem?_toArray, List.getElem?_cons_succ, List.getElem?_cons_zero]; rfl) (by kernel_rfl) (by kernel_rfl) (by kernel_rfl) (by exact fun _ _ _ h => h) (Or.inl ⟨by rfl, ?_⟩) (by assumption) ?_
      rotate_left
      · (intro w hSw; (try dsimp only at hSw); go_simp; (try with_reducible rfl))
      (try simp only [Act.put, List.setIfInBounds_toArray, List.set_cons_zero, List.set_cons_succ])
      refine wpAnyH_take (i := 1) (v := ?_) (by simp only [List.getElem?_toArray, List.getElem?_cons_succ, List.getElem?_cons_zero]; rfl) (by kernel_rfl) (by kernel_rfl) (by kernel_rfl) (by exact fun _ _ _ h => h) (Or.inl ⟨by rfl, ?_⟩) (by assumption) ?_
      rotate_left
      · (intro w hSw; (try dsimp only at hSw); go_simp; (try with_reducible rfl))
      (try simp only [Act.put, List.setIfInBounds_toArray, List.set_cons_zero, List.set_cons_succ])
      refine wpAnyH_take (i := 2) (v := ?_) (by simp only [List.getElem?_toArray, List.getElem?_cons_succ, List.getElem?_cons_zero]; rfl) (by kernel_rfl) (by kernel_rfl) (by kernel_rfl) (by exact fun _ _ _ h => h) (Or.inl ⟨by rfl, ?_⟩) (by assumption) ?_
      rotate_left
      · (intro w hSw; (try dsimp only at hSw); go_simp; (try with_reducible rfl))
      (try simp only [Act.put, List.setIfInBounds_toArray, List.set_cons_zero, List.set_cons_succ])
      refine wpAnyH_take (i := 3) (v := ?_) (by simp only [List.getElem?_toArray, List.getElem?_cons_succ, List.getElem?_cons_zero]; rfl) (by kernel_rfl) (by kernel_rfl) (by kernel_rfl) (by exact fun _ _ _ h => h) (Or.inl ⟨by rfl, ?_⟩) (by assumption) ?_
      rotate_left
      · (intro w hSw; (try dsimp only at hSw); go_simp; (try with_reducible rfl))
      (try simp only [Act.put, List.setIfInBounds_toArray, List.set_cons_zero, List.set_cons_succ])
      refine wpAnyH_take (i := 4) (v := ?_) (by simp only [List.getElem?_toArray, List.getElem?_cons_succ, List.getElem?_cons_zero]; rfl) (by kernel_rfl) (by kernel_rfl) (by kernel_rfl) (by exact fun _ _ _ h => h) (Or.inl ⟨by rfl, ?_⟩) (by assumption) ?_
      rotate_left
      · (intro w hSw; (try dsimp only at hSw); go_simp; (try with_reducible rfl))
      (try simp only [Act.put, List.setIfInBounds_toArray, List.set_cons_zero, List.set_cons_succ])
      refine wpAnyH_take (i := 5) (v := ?_) (by simp only [List.getElem?_toArray, List.getElem?_cons_succ, List.getElem?_cons_zero]; rfl) (by kernel_rfl) (by kernel_rfl) (by kernel_rfl) (by exact fun _ _ _ h => h) (Or.inl ⟨by rfl, ?_⟩) (by assumption) ?_
      rotate_left
      · (intro w hSw; (try dsimp only at hSw); go_simp; (try with_reducible rfl))
      (try simp only [Act.put, List.setIfInBounds_toArray, List.set_cons_zero, List.set_cons_succ])
      refine wpAnyH_take (i := 6) (v := ?_) (by simp only [List.getElem?_toArray, List.getElem?_cons_succ, List.getElem?_cons_zero]; rfl) (by kernel_rfl) (by kernel_rfl) (by kernel_rfl) (by exact fun _ _ _ h => h) (Or.inl ⟨by rfl, ?_⟩) (by assumption) ?_
      rotate_left
      · (intro w hSw; (try dsimp only at hSw); go_simp; (try with_reducible rfl))
      (try simp only [Act.put, List.setIfInBounds_toArray, List.set_cons_zero, List.set_cons_succ])
      refine wpAnyH_take (i := 7) (v := ?_) (by simp only [List.getElem?_toArray, List.getElem?_cons_succ, List.getElem?_cons_zero]; rfl) (by kernel_rfl) (by kernel_rfl) (by kernel_rfl) (by exact fun _ _ _ h => h) (Or.inl ⟨by rfl, ?_⟩) (by assumption) ?_
      rotate_left
      · (intro w hSw; (try dsimp only at hSw); go_simp; (try with_reducible rfl))
      (try simp only [Act.put, List.setIfInBounds_toArray, List.set_cons_zero, List.set_cons_succ])
      refine wpAnyH_take (i := 9) (v := ?_) (by simp only [List.getElem?_toArray, List.getElem?_cons_succ, List.getElem?_cons_zero]; rfl) (by kernel_rfl) (by kernel_rfl) (by kernel_rfl) (by exact fun _ _ _ h => h) (Or.inl ⟨by rfl, ?_⟩) (by assumption) ?_
      rotate_left
      · (intro w hSw; (try dsimp only at hSw); go_simp; (try with_reducible rfl))
      (try simp only [Act.put, List.setIfInBounds_toArray, List.set_cons_zero, List.set_cons_succ])
      refine wpAnyH_take (i := 10) (v := ?_) (by simp only [List.getElem?_toArray, List.getElem?_cons_succ, List.getElem?_cons_zero]; rfl) (by kernel_rfl) (by kernel_rfl) (by kernel_rfl) (by exact fun _ _ _ h => h) (Or.inl ⟨by rfl, ?_⟩) (by assumption) ?_
      rotate_left
      · (intro w hSw; (try dsimp only at hSw); go_simp; (try with_reducible rfl))
      (try simp only [Act.put, List.setIfInBounds_toArray, List.set_cons_zero, List.set_cons_succ])
      refine wpAnyH_take (i := 11) (v := ?_) (by simp only [List.getElem?_toArray, List.getElem?_cons_succ, List.getElem?_cons_zero]; rfl) (by kernel_rfl) (by kernel_rfl) (by kernel_rfl) (by exact fun _ _ _ h => h) (Or.inl ⟨by rfl, ?_⟩) (by assumption) ?_
      rotate_left
      · (intro w hSw; (try dsimp only at hSw); go_simp; (try with_reducible rfl))
      (try simp only [Act.put, List.setIfInBounds_toArray, List.set_cons_zero, List.set_cons_succ])
      refine wpAnyH_take (i := 12) (v := ?_) (by simp only [List.getElem?_toArray, List.getElem?_cons_succ, List.getElem?_cons_zero]; rfl) (by kernel_rfl) (by kernel_rfl) (by kernel_rfl) (by exact fun _ _ _ h => h) (Or.inl ⟨by rfl, ?_⟩) (by assumption) ?_
      rotate_left
      · (intro w hSw; (try dsimp only at hSw); go_simp; (try with_reducible rfl))
      (try simp only [Act.put, List.setIfInBounds_toArray, List.set_cons_zero, List.set_cons_succ])
      refine wpAnyH_take (i := 13) (v := ?_) (by simp only [List.getElem?_toArray, List.getElem?_cons_succ, List.getElem?_cons_zero]; rfl) (by kernel_rfl) (by kernel_rfl) (by kernel_rfl) (by exact fun _ _ _ h => h) (Or.inl ⟨by rfl, ?_⟩) (by assumption) ?_
      rotate_left
      · (intro w hSw; (try dsimp only at hSw); go_simp; (try with_reducible rfl))
      (try simp only [Act.put, List.setIfInBounds_toArray, List.set_cons_zero, List.set_cons_succ])
      refine wpAnyH_take (i := 14) (v := ?_) (by simp only [List.getElem?_toArray, List.getElem?_cons_succ, List.getElem?_cons_zero]; rfl) (by kernel_rfl) (by kernel_rfl) (by kernel_rfl) (by exact fun _ _ _ h => h) (Or.inl ⟨by rfl, ?_⟩) (by assumption) ?_
      rotate_left
      · (intro w hSw; (try dsimp only at hSw); go_simp; (try with_reducible rfl))
      (try simp only [Act.put, List.setIfInBounds_toArray, List.set_cons_zero, List.set_cons_succ])
      refine wpAnyH_take (i := 15) (v := ?_) (by simp only [List.getElem?_toArray, List.getElem?_cons_succ, List.getElem?_cons_zero]; rfl) (by kernel_rfl) (by kernel_rfl) (by kernel_rfl) (by exact fun _ _ _ h => h) (Or.inl ⟨by rfl, ?_⟩) (by assumption) ?_
      rotate_left
      · (intro w hSw; (try dsimp only at hSw); go_simp; (try with_reducible rfl))
      (try simp only [Act.put, List.setIfInBounds_toArray, List.set_cons_zero, List.set_cons_succ])
      refine wpAnyH_take (i := 16) (v := ?_) (by simp only [List.getElem?_toArray, List.getElem?_cons_succ, List.getElem?_cons_zero]; rfl) (by kernel_rfl) (by kernel_rfl) (by kernel_rfl) (by exact fun _ _ _ h => h) (Or.inl ⟨by rfl, ?_⟩) (by assumption) ?_
      rotate_left
      · (intro w hSw; (try dsimp only at hSw); go_simp; (try with_reducible rfl))
      (try simp only [Act.put, List.setIfInBounds_toArray, List.set_cons_zero, List.set_cons_succ])
      refine wpAnyH_ready (rs := [8]) (by kernel_rfl) (by simp) ?_
      refine AllReadyH.cons (by simp only [List.getElem?_toArray, List.getElem?_cons_succ, List.getElem?_cons_zero]; rfl) (fun K hK => ?_) AllReadyH.nil
      go_simp
      refine (rsame_at ms1 p1 ms2 p2 _ _ _ _ _ _ _ _ _ _ _ _ (r1 i).val (r2 i).val 3 _ q1 q2 (by omega) (by omega)).mono ?_
      rintro e w1 ⟨rfl, b1⟩
      go_wp2_with fail
      replace C1 := C1.below b1
      replace C2 := C2.below b1
      replace q1 := q1.below b1
      replace q2 := q2.below b1
      replace BB := BB.trans (b1.mono BB.size)
      clear b1
      refine hK.out _ _ ?_ (fun hH1 => ?_)
      · exact ⟨C1.out.1, C1.out.2.1, C1.out.2.2.1, C1.out.2.2.2, C2.out.1, C2.out.2.1, C2.out.2.2.1, C2.out.2.2.2⟩
      clear hK K hHeld
      (try simp only [Act.put, List.setIfInBounds_toArray, List.set_cons_zero, List.set_cons_succ])
      refine wpAnyH_ready (rs := [17]) (by kernel_rfl) (by simp) ?_
      refine AllReadyH.cons (by simp only [List.getElem?_toArray, List.getElem?_cons_succ, List.getElem?_cons_zero]; rfl) (fun K hK => ?_) AllReadyH.nil
      go_simp
      refine (jsame9_at ms1 p1 ms2 p2 _ _ _ _ _ _ _ _ _ _ _ _ (r1 i).val (r2 i).val 3 _ q1 q2 (by omega) (by omega)).mono ?_
      rintro e w2 ⟨rfl, b2⟩
      generalize sameC ⟨ms1, (r1 i).val⟩ ⟨ms2, (r2 i).val⟩ = sm at *
      go_wp2_with fail
      replace C1 := C1.below b2
      replace C2 := C2.below b2
      replace q1 := q1.below b2
      replace q2 := q2.below b2
      replace BB := BB.trans (b2.mono BB.size)
      clear b2
      refine hK.out _ _ ?_ (fun hH2 => ?_)
      · exact ⟨C1.out.1, C1.out.2.1, C1.out.2.2.1, C1.out.2.2.2, C2.out.1, C2.out.2.1, C2.out.2.2.1, C2.out.2.2.2⟩
      clear hK K hH1
      (try simp only [Act.put, List.setIfInBounds_toArray, List.set_cons_zero, List.set_cons_succ])
      refine wpAnyH_take (i := 18) (v := ?_) (by simp only [List.getElem?_toArray, List.getElem?_cons_succ, List.getElem?_cons_zero]; rfl) (by kernel_rfl) (by kernel_rfl) (by kernel_rfl) (by exact fun _ _ _ h => h) (Or.inl ⟨by rfl, ?_⟩) (by assumption) ?_
      rotate_left
      · (intro w hSw; (try dsimp only at hSw); go_simp; (try with_reducible rfl))
      (try simp only [Act.put, List.setIfInBounds_toArray, List.set_cons_zero, List.set_cons_succ])
      refine wpAnyH_done (by kernel_rfl) ?_ _
      clear hH2
      cases sm
      · go_wp2
        go_roundw
        case rel => exact ⟨i + 1, by omega, by go_num, BB⟩
        case measure => simp [intOf]; omega
      · go_wp2
        go_roundw
        case rel => exact ⟨i + 1, by omega, by go_num, BB⟩
        case measure => simp [intOf]; omega
    · have CA := CA0.out.below BB
      have CB := CB0.out.below BB
      have ht := ht0.out.below BB
      replace BB := BB0.out.trans (BB.mono BB0.out.size)
      by_cases hnk : i < n
      · have c1 : (i : Int) < (n : Int) := by omega
        have c2 : ¬ (i : Int) < (m : Int) := by omega
        clear CA0 CB0 ht0 BB0 hi hlt
        go_wp2_with fail
        refine (requal9_at _ _ n m r1 r2 3 _ CA CB (by omega) (by omega)).mono ?_
        rintro e w61 ⟨rfl, b61⟩
        replace CA := CA.below b61
        replace CB := CB.below b61
        replace ht := ht.below b61
        replace BB := BB.trans (b61.mono BB.size)
        clear b61
        go_wp2_with fail
        refine (jequal9_at _ _ n m r1 r2 3 _ CA CB (by omega) (by omega)).mono ?_
        rintro e w62 ⟨rfl, b62⟩
        replace CA := CA.below b62
        replace CB := CB.below b62
        replace ht := ht.below b62
        replace BB := BB.trans (b62.mono BB.size)
        clear b62
        have HEQ : Hid (eqR n n r1 r1 = true) := eqR_yes (fun i _ => sameC_self _)
        generalize eqR n m r1 r2 = qq
        have hqq : (qq == qq) = true := by simp
        go_wp2_with fail
        refine (requal9_at _ _ n n r1 r1 3 _ CA CA (by omega) (by omega)).mono ?_
        rintro e w63 ⟨rfl, b63⟩
        replace CA := CA.below b63
        replace CB := CB.below b63
        replace ht := ht.below b63
        replace BB := BB.trans (b63.mono BB.size)
        clear b63
        rw [HEQ.out]
        go_wp2_with fail
        refine (awake9_at _ ht).mono ?_
        rintro e w64 ⟨rfl, b64⟩
        replace CA := CA.below b64
        replace CB := CB.below b64
        replace ht := ht.below b64
        replace BB := BB.trans (b64.mono BB.size)
        clear b64
        go_wp2
        go_ret
        exact ⟨rfl, BB⟩
      · have c1 : ¬ (i : Int) < (n : Int) := by omega
        have c1b : decide ((i : Int) < (n : Int)) = false := decide_eq_false c1
        clear CA0 CB0 ht0 BB0 hi hlt
        go_wp2_with fail
        refine (requal9_at _ _ n m r1 r2 3 _ CA CB (by omega) (by omega)).mono ?_
        rintro e w61 ⟨rfl, b61⟩
        replace CA := CA.below b61
        replace CB := CB.below b61
        replace ht := ht.below b61
        replace BB := BB.trans (b61.mono BB.size)
        clear b61
        go_wp2_with fail
        refine (jequal9_at _ _ n m r1 r2 3 _ CA CB (by omega) (by omega)).mono ?_
        rintro e w62 ⟨rfl, b62⟩
        replace CA := CA.below b62
        replace CB := CB.below b62
        replace ht := ht.below b62
        replace BB := BB.trans (b62.mono BB.size)
        clear b62
        have HEQ : Hid (eqR n n r1 r1 = true) := eqR_yes (fun i _ => sameC_self _)
        generalize eqR n m r1 r2 = qq
        have hqq : (qq == qq) = true := by simp
        go_wp2_with fail
        refine (requal9_at _ _ n n r1 r1 3 _ CA CA (by omega) (by omega)).mono ?_
        rintro e w63 ⟨rfl, b63⟩
        replace CA := CA.below b63
        replace CB := CB.below b63
        replace ht := ht.below b63
        replace BB := BB.trans (b63.mono BB.size)
        clear b63
        rw [HEQ.out]
        go_wp2_with fail
        refine (awake9_at _ ht).mono ?_
        rintro e w64 ⟨rfl, b64⟩
        replace CA := CA.below b64
        replace CB := CB.below b64
        replace ht := ht.below b64
        replace BB := BB.trans (b64.mono BB.size)
        clear b64
        go_wp2
        go_ret
        exact ⟨rfl, BB⟩

theorem own : ownKnob Tryz.prog.godebug = none := by kernel_rfl
theorem laidOut : laidOutB Tryz.prog = true := by kernel_rfl

abbrev laid1 : List (String × DataW Unit) := [("math/bits.deBruijn64tab", Rows.laid_math_bits_deBruijn64tab)]
theorem gTab : Tryz.prog.globalNamed "math/bits.deBruijn64tab" = some 1 := by kernel_rfl
theorem gTabType : (Tryz.prog.globals[1]?).map (·.type) = some 179 := by kernel_rfl
theorem uTab : Tryz.prog.underlying 179 = some (.array 64 5) := by kernel_rfl
theorem uCell : Tryz.prog.underlying 5 = some (.int .u8) := by kernel_rfl
theorem cCell : Tryz.prog.cellsOf 5 = 1 := by kernel_rfl
theorem cTab : Tryz.prog.cellsOf 179 = 64 := by kernel_rfl
/-- The listed table lies in its cells. -/
theorem tab_of {W : World} (h : laidMetH Tryz.prog laid1 W) : Tab W := by
  rw [MakeChecks.laidMetH_plain _ _ _ (by kernel_rfl)] at h
  have hd : laid1 = [("math/bits.deBruijn64tab", Lib.tabData .u8 (Lib.deBruijn64tab.map fun (n : Nat) => Int.ofNat n))] := rfl
  rw [hd] at h
  have hT := Lib.tabIs_of_head gTab gTabType uTab uCell cCell cTab h
  intro i hi
  have hc := hT.cell gTab i (by rw [List.length_map]; exact hi)
  rw [hc]
  congr 2
  rw [List.getD_eq_getElem?_getD, List.getElem?_map, List.getD_eq_getElem?_getD]
  cases Lib.deBruijn64tab[i]? <;> rfl
/-- A start for the witness: the heap that the run of the program's own initialisers leaves. -/
noncomputable def startW (os : Os) : World := { World.holding Tryz.prog os ⟨#[], #[], []⟩ with heap := (varsWorld Tryz.prog 400 (varsId Tryz.prog) os (fun _ _ => 0)).heap }
theorem start_met (os : Os) (args : Array Value) : laidMetH Tryz.prog laid1 ((startW os).forCall (fun _ _ => 0) ⟨#[], args, []⟩).memory :=
  laidMetH_of_parts3 (fuel := 8) (laidMet_of_run' 8 (by kernel_rfl) (by kernel_rfl)) (by kernel_rfl) (by kernel_rfl)

set_option maxRecDepth 100000 in
theorem lifted (os : Os) (started : os.Started) (H : Type) (enc : TypeId × Value → H) :
    ReturnsInHanded {} Tryz.checked os 6 .any (fun w args => (Rows.rowsSamesSpec.pre enc Tryz.prog Tryz.f6 [] false w args ∧ laidMetH Tryz.prog laid1 w) ∧ sizedMet enc Tryz.prog Tryz.f6 (OpenSpec.ofChange Rows.rowsSamesSpec) false w args) (Rows.rowsSamesSpec.post enc Tryz.prog Tryz.f6 false true false false) := by
  refine returnsInHanded_of_change_and (C := Tryz.checked) (X := fun w _ => laidMetH Tryz.prog laid1 w) (fun _ _ _ hh h => h.of_heap hh) own started (by kernel_rfl) Tryz.func6
    (ChangeSpec.witness_shaped (enc := enc) (C := Tryz.checked) (os := os) (X := fun w _ => laidMetH Tryz.prog laid1 w) false (startW os) #[.slice none 0 0, .slice none 0 0] 8 rfl (World.shaped_of_RefB (by kernel_rfl) (by kernel_rfl)) (by kernel_rfl) (by kernel_rfl) (by kernel_rfl) (start_met os _)) ?_
  intro W base args ds gs before hval0 hW _ _ hL _
  have hval : ∀ (j : Nat) t v, Tryz.f6.params[j]? = some t → args[j]? = some v → Value.okWide Tryz.prog W .any base t v := hval0
  have hW' := hW
  obtain ⟨p, q, hA0, hV, rfl, hfz, hnd⟩ := hW
  have hA : DataW.TrodAll enc Tryz.prog W 0 (fun _ => true) true Tryz.f6.params.toList args.toList ds p := hA0
  rw [Tryz.params6] at hA hval
  obtain ⟨v0, vs0, d0, ds0, p0, q0, hargs, rfl, rfl, h0, r0⟩ := trodAll_cons hA
  obtain ⟨v1, vs1, d1, ds1, p1, q1, rfl, rfl, rfl, h1, r1⟩ := trodAll_cons r0
  obtain ⟨rfl, rfl, rfl⟩ := trodAll_nil r1
  obtain rfl : args = #[v0, v1] := by cases args; simp_all
  obtain ⟨rfl, rfl⟩ := trodVars_none hV
  have k0 := h0
  have lt0 : ∀ x ∈ p0, x.block < W.heap.size := by obtain ⟨m, hm⟩ := k0; exact DataW.trod_lt m _ _ _ hm
  obtain ⟨n0, z0, w0⟩ := open_cells 3 (hval 0 39 v0 rfl rfl) h0
  have k1 := h1
  have lt1 : ∀ x ∈ p1, x.block < W.heap.size := by obtain ⟨m, hm⟩ := k1; exact DataW.trod_lt m _ _ _ hm
  obtain ⟨n1, z1, w1⟩ := open_cells 3 (hval 1 39 v1 rfl rfl) h1
  clear hA0 hval0
  refine (walk _ _ _ _ _ _ W w0 w1 (tab_of hL)).mono fun e W' ⟨he, bel⟩ => ?_
  subst he
  exact ⟨_, rfl, _, _, _, [], _, [], hW', trodAll_mk1 (shut_bool Tryz.underlying4 _), (trodAll_cons_mk (Below.trod laidOut (by kernel_rfl) (of_decide_eq_true (by kernel_rfl)) k0 bel lt0) (trodAll_cons_mk (Below.trod laidOut (by kernel_rfl) (of_decide_eq_true (by kernel_rfl)) k1 bel lt1) trodAll_mk0)), rfl, bel.frame _, fun h => by cases h⟩

theorem over : Rows.rowsSamesRow.holds Tryz.pinned (OpenSpec.ofChange Rows.rowsSamesSpec) :=
  OpenClaim.holds_of_wide 6 Tryz.f6 rfl rfl rfl rfl rfl rfl rfl ⟨rfl, rfl, rfl, rfl, rfl⟩ rfl rfl rfl rfl rfl (by kernel_rfl) Tryz.func6 (by kernel_rfl)
    (of_decide_eq_true (by kernel_rfl)) (by unfold Func.isWrapper; first | (rw [if_pos (by decide +kernel)]; kernel_rfl) | (rw [if_neg (by decide +kernel)]; exact ⟨rfl, rfl⟩))
    (fun os started H enc _ => lifted os started H enc)

end Go.Proofs.YtianfjidbeineaaGreatDoor.rowsSames
namespace Go.Proofs.YtianfjidbeineaaGreatDoor
/-- The statement: the row, tied to the text of the program. -/
theorem rowsSames_holds : Rows.RowsSamesCardSaid :=
  Claim7.holds_tied_plain_at .later [] [.data] true (true, "885c1355689222cccb61c3139621a6636fb64cd2ef1af163d7343c3d7e634eb2") false
    rowsSames.over (fun _ h => by cases h) (by kernel_rfl) (fun _ h => by cases h) rowsSames_row_tie rfl ⟨rfl, rfl⟩ (by kernel_rfl) rfl
    (fun f fn hf hfn => by
      obtain rfl : f = 6 := Option.some.inj ((show Tryz.prog.funcNamed "dendron/dendronlaw09.RowsSames" = some 6 by kernel_rfl).symm.trans hf) |>.symm
      obtain rfl : fn = Tryz.f6 := (Option.some.inj (Tryz.func6.symm.trans hfn)).symm
      exact ⟨by kernel_rfl, fun j t ht => by
        rw [Tryz.params6] at ht
        have hm : t ∈ [39, 39] := by simpa using Array.mem_of_getElem? ht
        have hall : ([39, 39].all fun u => !Tryz.prog.wantsStandIn u) = true := by kernel_rfl
        exact (show Tryz.prog.wantsStandIn t = false by simpa using List.all_eq_true.1 hall t hm)⟩)
    (by kernel_rfl)
end Go.Proofs.YtianfjidbeineaaGreatDoor
