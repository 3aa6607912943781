/-
  Proves that Fact and Choose answer the product of all numbers up to any one up to 60 and the ways to take some of so many things, and that there are none beyond the limits, whatever comes in (the statement WholeCounts); no condition.
-/
import Derived.Test.YtlegcekklknjhaaRows
import Derived.Test.YtlegcekklknjhaaJ3
import Derived.WalkKit
import Derived.ProofKit
import Derived.OpenShut
import Derived.ShutString
import Derived.ChangeOld
import Derived.Below
namespace Go.Proofs.Ytlegcekklknjhaa.wholeCounts
open Go.ChangeShapes Go.WideShapes Go.ChangeAt Go.RowKit
open Go.ChangeMaps (open_string shut_string)
set_option linter.unusedVariables false
set_option linter.unusedSimpArgs false

theorem keep222 {w w' : World} {B : Nat} {a b c d a' b' : Addr} {x y z t x' y' : Value} (hb : Below B w w') (hB : w.heap.size ≤ B) (h : w.cell? a = some x ∧ w.cell? b = some y ∧ w.cell? c = some z ∧ w.cell? d = some t ∧ w.cell? a' = some x' ∧ w.cell? b' = some y') :
    w'.cell? a = some x ∧ w'.cell? b = some y ∧ w'.cell? c = some z ∧ w'.cell? d = some t ∧ w'.cell? a' = some x' ∧ w'.cell? b' = some y' :=
  ⟨(keep2 hb hB ⟨h.1, h.2.1⟩).1, (keep2 hb hB ⟨h.1, h.2.1⟩).2, keep4 hb hB h.2.2⟩
theorem nl_fact60 (n : Nat) (h : n ≤ 60) : nl W32 (factN n : Int).natAbs ≤ 1000 := by
  rw [Int.natAbs_natCast]; exact Nat.le_trans (nl_fact n (by omega)) (by omega)
theorem nl_ways60 (n k : Nat) (h : n ≤ 60) : nl W32 (waysN n k : Int).natAbs ≤ 1000 := by
  rw [Int.natAbs_natCast]; exact Nat.le_trans (nl_ways n k) (by omega)
theorem zof_nat (m : Nat) : zof false m = (m : Int) := zof_false m
theorem fact_mul (i : Nat) : (factN i : Int) * ((i + 1 : Nat) : Int) = (factN (i + 1) : Int) := by
  rw [← Int.natCast_mul]; rfl

/-- What Choose answers, and the document's. -/
theorem choose_both (n : Nat) (k : Int) (hn : n ≤ 60) : ∃ W : Nat, nl W32 (W : Int).natAbs ≤ 1000 ∧
    (∀ w, Calls Try.prog 13 #[.int .i64 (n : Int), .int .i64 k] w fun e w' => ∃ r, e = .returned (.tuple #[r, .int .i64 0]) ∧ RepI w' r (W : Int) ∧ Below w.heap.size w w') ∧
    (∀ w, Calls Try.prog 16 #[.int .i64 (n : Int), .int .i64 k] w fun e w' => ∃ r, e = .returned r ∧ RepD w' r W ∧ Below w.heap.size w w') := by
  by_cases hk : k < 0 ∨ (n : Int) < k
  · exact ⟨0, by decide, fun w => choose_none _ _ w (by omega) (by omega) hk, fun w => rchoose_none _ _ w hk⟩
  · obtain ⟨K, rfl⟩ : ∃ K : Nat, k = (K : Int) := ⟨k.toNat, by omega⟩
    refine ⟨waysN n K, nl_ways60 n K hn, fun w => ?_, fun w => rchoose_any n K w (by omega) (by omega)⟩
    by_cases h : K ≤ n - K
    · exact choose_any n K K w (by omega) (by omega) (.inl ⟨h, rfl⟩)
    · exact choose_any n K (n - K) w (by omega) (by omega) (.inr ⟨by omega, rfl⟩)

set_option maxRecDepth 20000 in
set_option maxHeartbeats 4000000 in
theorem walk (n k : Int) (w : World) (wn : (Lit.int .i64 n).wf = true) (wk : (Lit.int .i64 k).wf = true) :
    Calls Try.prog 4 #[.int .i64 n, .int .i64 k] w fun e w' => e = .returned (.bool true) ∧ Below w.heap.size w w' := by
  have hnb := bounds_i64 wn
  have hkb := bounds_i64 wk
  clear wn wk
  by_cases hm : 60 < n ∧ n ≤ 4096
  · have h1 : n > 60 := hm.1
    have h2 : n ≤ 4096 := hm.2
    go_enter Try.func4, Try.ntmps4
    go_wp2_with fail
    refine (wawake_any _).mono ?_
    rintro e w2 ⟨rfl, hb2⟩
    go_wp2
    go_ret
    exact ⟨rfl, hb2⟩
  by_cases hr : n < 0 ∨ 4096 < n
  · have HF : Hid (∀ w, Calls Try.prog 12 #[.int .i64 n] w fun e w' => ∃ r, e = .returned (.tuple #[r, .int .i64 8]) ∧ RepI w' r 0 ∧ Below w.heap.size w w') := fun w => fact_range n w hr
    have HC : Hid (∀ w, Calls Try.prog 13 #[.int .i64 n, .int .i64 k] w fun e w' => ∃ r, e = .returned (.tuple #[r, .int .i64 8]) ∧ RepI w' r 0 ∧ Below w.heap.size w w') := fun w => choose_range n k w hr
    clear hm
    rcases hr with hr | hr
    · have a1 : n < 0 := hr
      have a3 : ¬ n > 60 := by omega
      clear hr
      go_enter Try.func4, Try.ntmps4
      go_wp2_with fail
      refine (HF.out _).mono ?_
      rintro e w1 ⟨r1, rfl, hr1, b1⟩
      obtain ⟨p1, ao1, n1, c1, rfl⟩ := hr1.open
      have A1 : Below w1.heap.size w1 (w1.alloc (.cells #[.bool p1, .slice ao1 n1 c1] 31)) := (Below.refl _ _).alloc (Nat.le_refl _) _
      have B1 : Below w.heap.size w (w1.alloc (.cells #[.bool p1, .slice ao1 n1 c1] 31)) := b1.trans (A1.mono b1.size)
      have V1 : V2 (w1.alloc (.cells #[.bool p1, .slice ao1 n1 c1] 31)) w1.heap.size (.bool p1) (.slice ao1 n1 c1) := resW w1 31 _ _
      replace hr1 := hr1.below A1
      clear A1 b1
      go_wp2_with fail
      generalize w1.heap.size = R1 at *
      generalize w1.alloc (.cells #[.bool p1, .slice ao1 n1 c1] 31) = W1 at *
      refine (HC.out _).mono ?_
      rintro e w2 ⟨r2, rfl, hr2, b2⟩
      obtain ⟨p2, ao2, n2, c2, rfl⟩ := hr2.open
      have A2 : Below w2.heap.size w2 (w2.alloc (.cells #[.bool p2, .slice ao2 n2 c2] 31)) := (Below.refl _ _).alloc (Nat.le_refl _) _
      have B2' : Below w.heap.size w w2 := B1.trans (b2.mono B1.size)
      have B2 : Below w.heap.size w (w2.alloc (.cells #[.bool p2, .slice ao2 n2 c2] 31)) := B2'.trans (A2.mono B2'.size)
      have V2' : V2 (w2.alloc (.cells #[.bool p2, .slice ao2 n2 c2] 31)) w2.heap.size (.bool p2) (.slice ao2 n2 c2) := resW w2 31 _ _
      replace V1 := (V1.below b2).below A2
      replace hr1 := (hr1.below b2).below A2
      replace hr2 := hr2.below A2
      clear A2 b2 B1 B2' HF HC
      go_wp2
      generalize w2.heap.size = R2 at *
      generalize w2.alloc (.cells #[.bool p2, .slice ao2 n2 c2] 31) = W2 at *
      have S0 := And.intro V1.1 (And.intro V1.2.1 (And.intro V2'.1 V2'.2.1))
      have BD := B2.drew
      replace hr1 := hr1.below (Below.refl _ W2).drew
      replace hr2 := hr2.below (Below.refl _ W2).drew
      clear V1 V2' B2
      go_region_held3 (fun w' => w'.cell? ⟨R1, 0, none⟩ = some (.bool p1) ∧ w'.cell? ⟨R1, 1, none⟩ = some (.slice ao1 n1 c1) ∧ w'.cell? ⟨R2, 0, none⟩ = some (.bool p2) ∧ w'.cell? ⟨R2, 1, none⟩ = some (.slice ao2 n2 c2)) (first | exact keep4 (by assumption) (by exact Nat.le_refl _) (by assumption) | exact S0) (first
        | (go_at_call_of 9 ao1; refine (ris_rep _ _ _ _ (hr1.below k1) (by decide) hz1).mono ?_; rintro e y2 ⟨rfl, k2⟩)
        | (go_at_call_of 9 ao2; refine (ris_rep _ _ _ _ (((hr2.below k1).below k2).below k3) (by decide) hz3).mono ?_; rintro e y4 ⟨rfl, k4⟩)
        | (go_at_call 11; refine (wawake_any _).mono ?_; rintro e y5 ⟨rfl, k5⟩)
        | (go_at_call 5; refine (rsmall_any 0 W2.drew (by omega) (by omega)).mono ?_; rintro e y1 ⟨z1, rfl, hz1, k1⟩)
        | (go_at_call 5; refine (rsmall_any 0 y2 (by omega) (by omega)).mono ?_; rintro e y3 ⟨z3, rfl, hz3, k3⟩))
      go_wp2
      go_ret
      have X1 := BD.trans (k1.mono BD.size)
      have X2 := X1.trans (k2.mono X1.size)
      have X3 := X2.trans (k3.mono X2.size)
      have X4 := X3.trans (k4.mono X3.size)
      exact ⟨rfl, X4.trans (k5.mono X4.size)⟩
    · have a1 : ¬ n < 0 := by omega
      have a2 : n > 4096 := hr
      have a3 : n > 60 := by omega
      have a4 : ¬ n ≤ 4096 := by omega
      clear hr
      go_enter Try.func4, Try.ntmps4
      go_wp2_with fail
      refine (HF.out _).mono ?_
      rintro e w1 ⟨r1, rfl, hr1, b1⟩
      obtain ⟨p1, ao1, n1, c1, rfl⟩ := hr1.open
      have A1 : Below w1.heap.size w1 (w1.alloc (.cells #[.bool p1, .slice ao1 n1 c1] 31)) := (Below.refl _ _).alloc (Nat.le_refl _) _
      have B1 : Below w.heap.size w (w1.alloc (.cells #[.bool p1, .slice ao1 n1 c1] 31)) := b1.trans (A1.mono b1.size)
      have V1 : V2 (w1.alloc (.cells #[.bool p1, .slice ao1 n1 c1] 31)) w1.heap.size (.bool p1) (.slice ao1 n1 c1) := resW w1 31 _ _
      replace hr1 := hr1.below A1
      clear A1 b1
      go_wp2_with fail
      generalize w1.heap.size = R1 at *
      generalize w1.alloc (.cells #[.bool p1, .slice ao1 n1 c1] 31) = W1 at *
      refine (HC.out _).mono ?_
      rintro e w2 ⟨r2, rfl, hr2, b2⟩
      obtain ⟨p2, ao2, n2, c2, rfl⟩ := hr2.open
      have A2 : Below w2.heap.size w2 (w2.alloc (.cells #[.bool p2, .slice ao2 n2 c2] 31)) := (Below.refl _ _).alloc (Nat.le_refl _) _
      have B2' : Below w.heap.size w w2 := B1.trans (b2.mono B1.size)
      have B2 : Below w.heap.size w (w2.alloc (.cells #[.bool p2, .slice ao2 n2 c2] 31)) := B2'.trans (A2.mono B2'.size)
      have V2' : V2 (w2.alloc (.cells #[.bool p2, .slice ao2 n2 c2] 31)) w2.heap.size (.bool p2) (.slice ao2 n2 c2) := resW w2 31 _ _
      replace V1 := (V1.below b2).below A2
      replace hr1 := (hr1.below b2).below A2
      replace hr2 := hr2.below A2
      clear A2 b2 B1 B2' HF HC
      go_wp2
      generalize w2.heap.size = R2 at *
      generalize w2.alloc (.cells #[.bool p2, .slice ao2 n2 c2] 31) = W2 at *
      have S0 := And.intro V1.1 (And.intro V1.2.1 (And.intro V2'.1 V2'.2.1))
      have BD := B2.drew
      replace hr1 := hr1.below (Below.refl _ W2).drew
      replace hr2 := hr2.below (Below.refl _ W2).drew
      clear V1 V2' B2
      go_region_held3 (fun w' => w'.cell? ⟨R1, 0, none⟩ = some (.bool p1) ∧ w'.cell? ⟨R1, 1, none⟩ = some (.slice ao1 n1 c1) ∧ w'.cell? ⟨R2, 0, none⟩ = some (.bool p2) ∧ w'.cell? ⟨R2, 1, none⟩ = some (.slice ao2 n2 c2)) (first | exact keep4 (by assumption) (by exact Nat.le_refl _) (by assumption) | exact S0) (first
        | (go_at_call_of 9 ao1; refine (ris_rep _ _ _ _ (hr1.below k1) (by decide) hz1).mono ?_; rintro e y2 ⟨rfl, k2⟩)
        | (go_at_call_of 9 ao2; refine (ris_rep _ _ _ _ (((hr2.below k1).below k2).below k3) (by decide) hz3).mono ?_; rintro e y4 ⟨rfl, k4⟩)
        | (go_at_call 11; refine (wawake_any _).mono ?_; rintro e y5 ⟨rfl, k5⟩)
        | (go_at_call 5; refine (rsmall_any 0 W2.drew (by omega) (by omega)).mono ?_; rintro e y1 ⟨z1, rfl, hz1, k1⟩)
        | (go_at_call 5; refine (rsmall_any 0 y2 (by omega) (by omega)).mono ?_; rintro e y3 ⟨z3, rfl, hz3, k3⟩))
      go_wp2
      go_ret
      have X1 := BD.trans (k1.mono BD.size)
      have X2 := X1.trans (k2.mono X1.size)
      have X3 := X2.trans (k3.mono X2.size)
      have X4 := X3.trans (k4.mono X3.size)
      exact ⟨rfl, X4.trans (k5.mono X4.size)⟩
  · obtain ⟨N, rfl⟩ : ∃ N : Nat, n = (N : Int) := ⟨n.toNat, by omega⟩
    have hN : N ≤ 60 := by omega
    obtain ⟨Wk, hWk, HC', HR'⟩ := choose_both N k hN
    have HF : Hid (∀ w, Calls Try.prog 12 #[.int .i64 (N : Int)] w fun e w' => ∃ r, e = .returned (.tuple #[r, .int .i64 0]) ∧ RepI w' r (factN N : Int) ∧ Below w.heap.size w w') := fun w => fact_any N w (by omega)
    have HC : Hid (∀ w, Calls Try.prog 13 #[.int .i64 (N : Int), .int .i64 k] w fun e w' => ∃ r, e = .returned (.tuple #[r, .int .i64 0]) ∧ RepI w' r (Wk : Int) ∧ Below w.heap.size w w') := HC'
    have HR : Hid (∀ w, Calls Try.prog 16 #[.int .i64 (N : Int), .int .i64 k] w fun e w' => ∃ r, e = .returned r ∧ RepD w' r Wk ∧ Below w.heap.size w w') := HR'
    have lF := nl_fact60 N hN
    clear HC' HR' hm hr
    have a1 : ¬ (N : Int) < 0 := by omega
    have a2 : ¬ (N : Int) > 4096 := by omega
    have a3 : ¬ (N : Int) > 60 := by omega
    go_enter Try.func4, Try.ntmps4
    go_wp2_with fail
    refine (HF.out _).mono ?_
    rintro e w1 ⟨r1, rfl, hr1, b1⟩
    obtain ⟨p1, ao1, n1, c1, rfl⟩ := hr1.open
    have A1 : Below w1.heap.size w1 (w1.alloc (.cells #[.bool p1, .slice ao1 n1 c1] 31)) := (Below.refl _ _).alloc (Nat.le_refl _) _
    have B1 : Below w.heap.size w (w1.alloc (.cells #[.bool p1, .slice ao1 n1 c1] 31)) := b1.trans (A1.mono b1.size)
    have V1 : V2 (w1.alloc (.cells #[.bool p1, .slice ao1 n1 c1] 31)) w1.heap.size (.bool p1) (.slice ao1 n1 c1) := resW w1 31 _ _
    replace hr1 := hr1.below A1
    clear A1 b1
    go_wp2_with fail
    generalize w1.heap.size = R1 at *
    generalize w1.alloc (.cells #[.bool p1, .slice ao1 n1 c1] 31) = W1 at *
    refine (HC.out _).mono ?_
    rintro e w2 ⟨r2, rfl, hr2, b2⟩
    obtain ⟨p2, ao2, n2, c2, rfl⟩ := hr2.open
    have A2 : Below w2.heap.size w2 (w2.alloc (.cells #[.bool p2, .slice ao2 n2 c2] 31)) := (Below.refl _ _).alloc (Nat.le_refl _) _
    have B2' : Below w.heap.size w w2 := B1.trans (b2.mono B1.size)
    have B2 : Below w.heap.size w (w2.alloc (.cells #[.bool p2, .slice ao2 n2 c2] 31)) := B2'.trans (A2.mono B2'.size)
    have V2' : V2 (w2.alloc (.cells #[.bool p2, .slice ao2 n2 c2] 31)) w2.heap.size (.bool p2) (.slice ao2 n2 c2) := resW w2 31 _ _
    replace V1 := (V1.below b2).below A2
    replace hr1 := (hr1.below b2).below A2
    replace hr2 := hr2.below A2
    clear A2 b2 B1 B2' HF HC
    go_wp2_with fail
    generalize w2.heap.size = R2 at *
    generalize w2.alloc (.cells #[.bool p2, .slice ao2 n2 c2] 31) = W2 at *
    refine (rsmall_any 1 _ (by omega) (by omega)).mono ?_
    rintro e w3 ⟨r3, rfl, hr3, b3⟩
    obtain ⟨p3, ao3, n3, c3, rfl⟩ := hr3.open
    have A3 : Below w3.heap.size w3 (w3.alloc (.cells #[.bool p3, .slice ao3 n3 c3] 26)) := (Below.refl _ _).alloc (Nat.le_refl _) _
    have B3' : Below W2.heap.size W2 w3 := b3
    have B3 : Below W2.heap.size W2 (w3.alloc (.cells #[.bool p3, .slice ao3 n3 c3] 26)) := B3'.trans (A3.mono B3'.size)
    have V3 : V2 (w3.alloc (.cells #[.bool p3, .slice ao3 n3 c3] 26)) w3.heap.size (.bool p3) (.slice ao3 n3 c3) := resW w3 26 _ _
    have hR3 : W2.heap.size ≤ w3.heap.size := b3.size
    replace hr3 := hr3.below A3
    clear A3 b3 B3'
    go_wp2
    generalize w3.heap.size = R3 at *
    generalize w3.alloc (.cells #[.bool p3, .slice ao3 n3 c3] 26) = W3 at *
    go_loopw [10] (fun vi wr => ∃ (i : Nat) (p : Bool) (ao : Option Addr) (m c : Nat), i ≤ N ∧ vi = .int .i64 ((i : Int) + 1) ∧ V2 wr R3 (.bool p) (.slice ao m c) ∧ RepJ wr (.agg #[.bool p, .slice ao m c]) (factN i : Int) ∧ Below W2.heap.size W2 wr) (fun vi _ => (N + 1 - intOf vi).toNat)
    case atStart => exact ⟨0, p3, ao3, n3, c3, by omega, rfl, V3, hr3, B3⟩
    case round =>
      clear hr3 B3 V3
      obtain ⟨i, p, ao, m, c, hi, rfl, V, J, B⟩ := hrel
      by_cases hlt : i < N
      · have j1 : (i : Int) + 1 ≤ (N : Int) := by omega
        have lf := nl_fact60 i (by omega)
        have V' := V
        obtain ⟨z1, z2, _, _⟩ := V'
        have l1 : nl W32 ((i : Int) + 1).natAbs ≤ 1 := nl_small7 _ (by omega)
        have hfm : (factN i : Int) * ((i : Int) + 1) = (factN (i + 1) : Int) := fact_mul i
        have HFM : Hid ((factN i : Int) * ((i : Int) + 1) = (factN (i + 1) : Int)) := hfm
        clear hfm
        have J0 := J.below (Below.refl _ wr).drew
        have V0 := V.below (Below.refl _ wr).drew
        have B0 := B.drew
        clear J V B
        go_wp2
        go_region_with (first
          | (go_at_call 5; refine (rsmall_any _ _ (by omega) (by omega)).mono ?_; rintro e w4 ⟨r4, rfl, hr4, b4⟩; obtain ⟨y1, y2, _, _⟩ := V0.below b4)
          | (go_at_call 14; refine (rtimes_any _ _ _ _ _ (J0.below b4) hr4 (nlj lf (by omega)) (nlj l1 (by omega))).mono ?_; rintro e w5 ⟨r5, rfl, hr5, b5⟩; obtain ⟨p5, ao5, n5, c5, rfl⟩ := hr5.open; obtain ⟨y3, y4, y5, y6⟩ := (V0.below b4).below b5))
        all_goals
          have V5 : V2 w5 R3 (.bool p) (.slice ao m c) := ⟨y3, y4, y5, y6⟩
          have B4 := B0.trans (b4.mono B0.size)
          have B5 := B4.trans (b5.mono B4.size)
          have K5 := V5.keepJ (.bool p5) (.slice ao5 n5 c5)
          have J6 := hr5.keep K5
          rw [HFM.out] at J6
          have V6 := V5.same (.bool p5) (.slice ao5 n5 c5)
          have B6 := below_store2 B5 hR3 (.bool p5) (.slice ao5 n5 c5)
          clear J0 V0 B0 hr4 b4 hr5 b5 B4 B5 V5 K5
          go_wp2
          go_roundw
          case rel => exact ⟨i + 1, p5, ao5, n5, c5, by omega, by go_num, V6, J6, B6⟩
          case measure => simp [intOf]; omega
      · have j1 : ¬ (i : Int) + 1 ≤ (N : Int) := by omega
        obtain rfl : i = N := by omega
        have BF := (B2.trans (B.mono B2.size)).drew
        have F1 := (hr1.below B).below (Below.refl _ wr).drew
        have F2 := (hr2.below B).below (Below.refl _ wr).drew
        have F3 := J.below (Below.refl _ wr).drew
        have X1 := (V1.below B).below (Below.refl _ wr).drew
        have X2 := (V2'.below B).below (Below.refl _ wr).drew
        have X3 := V.below (Below.refl _ wr).drew
        have S0 := And.intro X1.1 (And.intro X1.2.1 (And.intro X2.1 (And.intro X2.2.1 (And.intro X3.1 X3.2.1))))
        clear X1 X2 X3 V1 V2' V hr1 hr2 J B B2
        go_wp2
        go_region_held3 (fun w' => w'.cell? ⟨R1, 0, none⟩ = some (.bool p1) ∧ w'.cell? ⟨R1, 1, none⟩ = some (.slice ao1 n1 c1) ∧ w'.cell? ⟨R2, 0, none⟩ = some (.bool p2) ∧ w'.cell? ⟨R2, 1, none⟩ = some (.slice ao2 n2 c2) ∧ w'.cell? ⟨R3, 0, none⟩ = some (.bool p) ∧ w'.cell? ⟨R3, 1, none⟩ = some (.slice ao m c)) (first | exact keep222 (by assumption) (by exact Nat.le_refl _) (by assumption) | exact S0) (first
          | (go_at_call_of 9 ao1; refine (ris_rep _ _ _ _ F1 lF F3).mono ?_; rintro e y1 ⟨rfl, k1⟩)
          | (go_at_call 16; refine (HR.out _).mono ?_; rintro e y2 ⟨r7, rfl, hr7, k2⟩)
          | (go_at_call 15; refine (rmake_any _ _ _ _ hr7).mono ?_; rintro e y3 ⟨r8, rfl, hr8, k3⟩; rw [zof_false] at hr8)
          | (go_at_call_of 9 ao2; refine (ris_rep _ _ _ _ (((F2.below k1).below k2).below k3) hWk hr8).mono ?_; rintro e y4 ⟨rfl, k4⟩)
          | (go_at_call 11; refine (wawake_any _).mono ?_; rintro e y5 ⟨rfl, k5⟩))
        go_wp2
        go_ret
        have Y1 := BF.trans (k1.mono BF.size)
        have Y2 := Y1.trans (k2.mono Y1.size)
        have Y3 := Y2.trans (k3.mono Y2.size)
        have Y4 := Y3.trans (k4.mono Y3.size)
        exact ⟨rfl, Y4.trans (k5.mono Y4.size)⟩

theorem own : ownKnob Try.prog.godebug = none := by kernel_rfl

set_option maxRecDepth 100000 in
theorem lifted (os : Os) (started : os.Started) (H : Type) (enc : TypeId × Value → H) :
    ReturnsInHanded {} Try.checked os 4 .any (Rows.wholeCountsSpec.pre6 enc Try.prog Try.f4 Rows.wholeCountsRow.domain false) (Rows.wholeCountsSpec.post enc Try.prog Try.f4 false true false false) := by
  refine returnsInHanded_of_change (C := Try.checked) own started (by kernel_rfl) Try.func4
    (ChangeSpec.witness6 (enc := enc) (C := Try.checked) false ⟨#[], #[.int .i64 0, .int .i64 0], []⟩ 8 (by kernel_rfl) (by kernel_rfl) (by kernel_rfl) (by kernel_rfl)) ?_
  intro W base args ds gs before hval0 hW hcnd _
  have hval : ∀ (j : Nat) t v, Try.f4.params[j]? = some t → args[j]? = some v → Value.okWide Try.prog W .any base t v := hval0
  have hW' := hW
  obtain ⟨p, q, hA0, hV, rfl, hfz, hnd⟩ := hW
  have hA : DataW.TrodAll enc Try.prog W 0 (fun _ => true) true Try.f4.params.toList args.toList ds p := hA0
  rw [Try.params4] at hA hval
  obtain ⟨v0, vs0, d0, ds0, p0, q0, hargs, rfl, rfl, h0, r0⟩ := trodAll_cons hA
  obtain ⟨v1, vs1, d1, ds1, p1, q1, rfl, rfl, rfl, h1, r1⟩ := trodAll_cons r0
  obtain ⟨rfl, rfl, rfl⟩ := trodAll_nil r1
  obtain rfl : args = #[v0, v1] := by cases args; simp_all
  obtain ⟨rfl, rfl⟩ := trodVars_none hV
  obtain ⟨a0, rfl, rfl, rfl, w0⟩ := open_int Try.underlying3 (hval 0 3 v0 rfl rfl) h0
  obtain ⟨a1, rfl, rfl, rfl, w1⟩ := open_int Try.underlying3 (hval 1 3 v1 rfl rfl) h1
  clear hA0 hval0
  refine (walk a0 a1 W w0 w1).mono fun e W' ⟨he, bel⟩ => ?_
  subst he
  exact ⟨_, rfl, _, _, _, [], _, [], hW', trodAll_mk1 (shut_bool Try.underlying4 _), (trodAll_cons_mk (shut_int Try.underlying3 w0) (trodAll_cons_mk (shut_int Try.underlying3 w1) trodAll_mk0)), rfl, bel.frame _, fun h => by cases h⟩

theorem over : Rows.wholeCountsRow.holds Try.pinned (OpenSpec.ofChange Rows.wholeCountsSpec) :=
  OpenClaim.holds_of_wide 4 Try.f4 rfl rfl rfl rfl rfl rfl rfl ⟨rfl, rfl, rfl, rfl, rfl⟩ rfl rfl rfl rfl rfl (by kernel_rfl) Try.func4 (by kernel_rfl)
    (of_decide_eq_true (by kernel_rfl)) (by unfold Func.isWrapper; first | (rw [if_pos (by decide +kernel)]; kernel_rfl) | (rw [if_neg (by decide +kernel)]; exact ⟨rfl, rfl⟩))
    (fun os started H enc _ => lifted os started H enc)

end Go.Proofs.Ytlegcekklknjhaa.wholeCounts
namespace Go.Proofs.Ytlegcekklknjhaa
/-- The statement. -/
theorem wholeCounts_holds : Rows.WholeCountsSaid := wholeCounts.over
end Go.Proofs.Ytlegcekklknjhaa
