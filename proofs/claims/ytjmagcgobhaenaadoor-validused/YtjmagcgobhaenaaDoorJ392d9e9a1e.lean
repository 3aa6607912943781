/-
  Texts of mine, joined: what lies beneath the statement.
-/
import Derived.Test.YtjmagcgobhaenaaDoorJ41b314b926
import Derived.Test.YtjmagcgobhaenaaDoorJ84f4b3356d
import Derived.Test.YtjmagcgobhaenaaDoorJ862e4790b8
namespace Go.Proofs.YtjmagcgobhaenaaDoor
open Go.RowKit
set_option linter.unusedVariables false
set_option linter.unusedSimpArgs false
def rpV (e : Int) : Option Nat → Value
  | none => .tuple #[.int .i64 (-1), .int .i64 0]
  | some i => .tuple #[.int .i64 (i : Int), .int .i64 e]
theorem rpV_some {p : Nat → Bool} {n i : Nat} {e : Int} (hi : i < n) (h : ∀ j, j < i → p j = false) (hp : p i = true) : rpV e (fb p n) = .tuple #[.int .i64 (i : Int), .int .i64 e] := by rw [fb_some hi h hp]; rfl
theorem rpV_none {p : Nat → Bool} {n : Nat} {e : Int} (h : ∀ j, j < n → p j = false) : rpV e (fb p n) = .tuple #[.int .i64 (-1), .int .i64 0] := by rw [fb_none h]; rfl
set_option maxRecDepth 100000 in
set_option maxHeartbeats 8000000 in
theorem lrule0_at (v : Value) (n : Nat) (t : Nat → Nd) (F : Int) (L : Nat) (w : World) (hv : TRow w v n t L) (hn : n ≤ 255) :
    Calls Tryd.prog 20 #[v, .int .i64 F, .int .i64 0] w fun e w' => e = .returned (rpV 8 (fb (bad0 F t n) n)) ∧ Below w.heap.size w w' := by
  obtain ⟨ao, c, rfl, hnc, hc63⟩ := hv.open
  have BB : Below w.heap.size w w := Below.refl _ _
  go_enter Tryd.func20, Tryd.ntmps20
  go_wp2
  go_loopw [8] (fun vi wr => ∃ i : Nat, i ≤ n ∧ vi = .int .i64 (i : Int) ∧ Hid (∀ j, j < i → (bad0 F t n) j = false) ∧ Below w.heap.size w wr) (fun vi _ => n - (intOf vi).toNat)
  case atStart => exact ⟨0, by omega, rfl, fun j hj => by omega, BB⟩
  case round =>
    clear BB
    obtain ⟨i, hi, rfl, HB, BB⟩ := hrel
    by_cases hlt : i < n
    · have g1 : (i : Int) < (n : Int) := by omega
      have g0 : (0 : Int) ≤ (i : Int) := by omega
      have hv1 := hv.below BB
      obtain ⟨b, off, cc, p1, a1, n1, c1, b1, m1, d1, p2, a2, n2, c2, b2, m2, d2, p3, a3, n3, c3, b3, m3, d3, hvv, hcc, hc6, NN, r1, r2, r3, i1, i2, i3⟩ := hv1.at hlt
      cases hvv
      clear hv1 r1 r2 r3 i1 i2 i3
      have HP : Hid (bad0 F t n i = (!(t i).leaf && (decide ((t i).feat ≥ F) || decide ((t i).left < 1) || decide ((t i).left ≥ (n : Int)) || decide ((t i).right < 1) || decide ((t i).right ≥ (n : Int))))) := rfl
      obtain ⟨lf, hlf⟩ : ∃ z, (t i).leaf = z := ⟨_, rfl⟩
      obtain ⟨ft, hft⟩ : ∃ z, (t i).feat = z := ⟨_, rfl⟩
      obtain ⟨ll, hll⟩ : ∃ z, (t i).left = z := ⟨_, rfl⟩
      obtain ⟨rr, hrr⟩ : ∃ z, (t i).right = z := ⟨_, rfl⟩
      rw [hlf, hft, hll, hrr] at HP NN
      clear hlf hft hll hrr
      generalize (t i).miss = ms at NN
      cases lf
      · by_cases h1 : ft ≥ F
        · have h1b : decide (ft ≥ F) = true := decide_eq_true h1
          obtain ⟨N_0, N_1, N_2, N_3, N_4, N_5, N_6, N_7, N_8, N_9, N_10, N_11, N_12, N_13⟩ := id NN
          obtain ⟨W1, rfl, hS1, hL1, VN, FN⟩ := V14.lay wr 41 (.bool false) (.int .i64 ft) (.bool p1) (.slice a1 n1 c1) (.slice b1 m1 d1) (.int .i64 ll) (.int .i64 rr) (.bool ms) (.bool p2) (.slice a2 n2 c2) (.slice b2 m2 d2) (.bool p3) (.slice a3 n3 c3) (.slice b3 m3 d3)
          replace BB := BB.trans (hL1.mono BB.size)
          obtain ⟨V_0, V_1, V_2, V_3, V_4, V_5, V_6, V_7, V_8, V_9, V_10, V_11, V_12, V_13⟩ := id VN
          have hbad : bad0 F t n i = true := by rw [HP.out, h1b]; simp
          clear HP
          have HR : Hid (rpV 8 (fb (bad0 F t n) n) = .tuple #[.int .i64 (i : Int), .int .i64 8]) := rpV_some hlt HB.out hbad
          clear HB
          go_wp2
          go_ret2
          exact ⟨congrArg Ending.returned HR.out.symm, BB⟩
        · have h1b : decide (ft ≥ F) = false := decide_eq_false h1
          by_cases h2 : ll < 1
          · have h2b : decide (ll < 1) = true := decide_eq_true h2
            obtain ⟨N_0, N_1, N_2, N_3, N_4, N_5, N_6, N_7, N_8, N_9, N_10, N_11, N_12, N_13⟩ := id NN
            obtain ⟨W1, rfl, hS1, hL1, VN, FN⟩ := V14.lay wr 41 (.bool false) (.int .i64 ft) (.bool p1) (.slice a1 n1 c1) (.slice b1 m1 d1) (.int .i64 ll) (.int .i64 rr) (.bool ms) (.bool p2) (.slice a2 n2 c2) (.slice b2 m2 d2) (.bool p3) (.slice a3 n3 c3) (.slice b3 m3 d3)
            replace BB := BB.trans (hL1.mono BB.size)
            obtain ⟨V_0, V_1, V_2, V_3, V_4, V_5, V_6, V_7, V_8, V_9, V_10, V_11, V_12, V_13⟩ := id VN
            have hbad : bad0 F t n i = true := by rw [HP.out, h1b, h2b]; simp
            clear HP
            have HR : Hid (rpV 8 (fb (bad0 F t n) n) = .tuple #[.int .i64 (i : Int), .int .i64 8]) := rpV_some hlt HB.out hbad
            clear HB
            go_wp2
            go_ret2
            exact ⟨congrArg Ending.returned HR.out.symm, BB⟩
          · have h2b : decide (ll < 1) = false := decide_eq_false h2
            by_cases h3 : ll ≥ (n : Int)
            · have h3b : decide (ll ≥ (n : Int)) = true := decide_eq_true h3
              obtain ⟨N_0, N_1, N_2, N_3, N_4, N_5, N_6, N_7, N_8, N_9, N_10, N_11, N_12, N_13⟩ := id NN
              obtain ⟨W1, rfl, hS1, hL1, VN, FN⟩ := V14.lay wr 41 (.bool false) (.int .i64 ft) (.bool p1) (.slice a1 n1 c1) (.slice b1 m1 d1) (.int .i64 ll) (.int .i64 rr) (.bool ms) (.bool p2) (.slice a2 n2 c2) (.slice b2 m2 d2) (.bool p3) (.slice a3 n3 c3) (.slice b3 m3 d3)
              replace BB := BB.trans (hL1.mono BB.size)
              obtain ⟨V_0, V_1, V_2, V_3, V_4, V_5, V_6, V_7, V_8, V_9, V_10, V_11, V_12, V_13⟩ := id VN
              have hbad : bad0 F t n i = true := by rw [HP.out, h1b, h2b, h3b]; simp
              clear HP
              have HR : Hid (rpV 8 (fb (bad0 F t n) n) = .tuple #[.int .i64 (i : Int), .int .i64 8]) := rpV_some hlt HB.out hbad
              clear HB
              go_wp2
              go_ret2
              exact ⟨congrArg Ending.returned HR.out.symm, BB⟩
            · have h3b : decide (ll ≥ (n : Int)) = false := decide_eq_false h3
              by_cases h4 : rr < 1
              · have h4b : decide (rr < 1) = true := decide_eq_true h4
                obtain ⟨N_0, N_1, N_2, N_3, N_4, N_5, N_6, N_7, N_8, N_9, N_10, N_11, N_12, N_13⟩ := id NN
                obtain ⟨W1, rfl, hS1, hL1, VN, FN⟩ := V14.lay wr 41 (.bool false) (.int .i64 ft) (.bool p1) (.slice a1 n1 c1) (.slice b1 m1 d1) (.int .i64 ll) (.int .i64 rr) (.bool ms) (.bool p2) (.slice a2 n2 c2) (.slice b2 m2 d2) (.bool p3) (.slice a3 n3 c3) (.slice b3 m3 d3)
                replace BB := BB.trans (hL1.mono BB.size)
                obtain ⟨V_0, V_1, V_2, V_3, V_4, V_5, V_6, V_7, V_8, V_9, V_10, V_11, V_12, V_13⟩ := id VN
                have hbad : bad0 F t n i = true := by rw [HP.out, h1b, h2b, h3b, h4b]; simp
                clear HP
                have HR : Hid (rpV 8 (fb (bad0 F t n) n) = .tuple #[.int .i64 (i : Int), .int .i64 8]) := rpV_some hlt HB.out hbad
                clear HB
                go_wp2
                go_ret2
                exact ⟨congrArg Ending.returned HR.out.symm, BB⟩
              · have h4b : decide (rr < 1) = false := decide_eq_false h4
                by_cases h5 : rr ≥ (n : Int)
                · have h5b : decide (rr ≥ (n : Int)) = true := decide_eq_true h5
                  obtain ⟨N_0, N_1, N_2, N_3, N_4, N_5, N_6, N_7, N_8, N_9, N_10, N_11, N_12, N_13⟩ := id NN
                  obtain ⟨W1, rfl, hS1, hL1, VN, FN⟩ := V14.lay wr 41 (.bool false) (.int .i64 ft) (.bool p1) (.slice a1 n1 c1) (.slice b1 m1 d1) (.int .i64 ll) (.int .i64 rr) (.bool ms) (.bool p2) (.slice a2 n2 c2) (.slice b2 m2 d2) (.bool p3) (.slice a3 n3 c3) (.slice b3 m3 d3)
                  replace BB := BB.trans (hL1.mono BB.size)
                  obtain ⟨V_0, V_1, V_2, V_3, V_4, V_5, V_6, V_7, V_8, V_9, V_10, V_11, V_12, V_13⟩ := id VN
                  have hbad : bad0 F t n i = true := by rw [HP.out, h1b, h2b, h3b, h4b, h5b]; simp
                  clear HP
                  have HR : Hid (rpV 8 (fb (bad0 F t n) n) = .tuple #[.int .i64 (i : Int), .int .i64 8]) := rpV_some hlt HB.out hbad
                  clear HB
                  go_wp2
                  go_ret2
                  exact ⟨congrArg Ending.returned HR.out.symm, BB⟩
                · have h5b : decide (rr ≥ (n : Int)) = false := decide_eq_false h5
                  obtain ⟨N_0, N_1, N_2, N_3, N_4, N_5, N_6, N_7, N_8, N_9, N_10, N_11, N_12, N_13⟩ := id NN
                  obtain ⟨W1, rfl, hS1, hL1, VN, FN⟩ := V14.lay wr 41 (.bool false) (.int .i64 ft) (.bool p1) (.slice a1 n1 c1) (.slice b1 m1 d1) (.int .i64 ll) (.int .i64 rr) (.bool ms) (.bool p2) (.slice a2 n2 c2) (.slice b2 m2 d2) (.bool p3) (.slice a3 n3 c3) (.slice b3 m3 d3)
                  replace BB := BB.trans (hL1.mono BB.size)
                  obtain ⟨V_0, V_1, V_2, V_3, V_4, V_5, V_6, V_7, V_8, V_9, V_10, V_11, V_12, V_13⟩ := id VN
                  have hbad : bad0 F t n i = false := by rw [HP.out, h1b, h2b, h3b, h4b, h5b]; rfl
                  clear HP
                  have HB2 : Hid (∀ j, j < i + 1 → (bad0 F t n) j = false) := fun j hj => by
                    by_cases e : j = i
                    · subst e; exact hbad
                    · exact HB.out j (by omega)
                  clear HB
                  go_wp2
                  go_roundw
                  case rel => exact ⟨i + 1, by omega, by go_num, HB2, BB⟩
                  case measure => simp [intOf]; omega
      · obtain ⟨N_0, N_1, N_2, N_3, N_4, N_5, N_6, N_7, N_8, N_9, N_10, N_11, N_12, N_13⟩ := id NN
        obtain ⟨W1, rfl, hS1, hL1, VN, FN⟩ := V14.lay wr 41 (.bool true) (.int .i64 ft) (.bool p1) (.slice a1 n1 c1) (.slice b1 m1 d1) (.int .i64 ll) (.int .i64 rr) (.bool ms) (.bool p2) (.slice a2 n2 c2) (.slice b2 m2 d2) (.bool p3) (.slice a3 n3 c3) (.slice b3 m3 d3)
        replace BB := BB.trans (hL1.mono BB.size)
        obtain ⟨V_0, V_1, V_2, V_3, V_4, V_5, V_6, V_7, V_8, V_9, V_10, V_11, V_12, V_13⟩ := id VN
        have hbad : bad0 F t n i = false := by rw [HP.out]; rfl
        clear HP
        have HB2 : Hid (∀ j, j < i + 1 → (bad0 F t n) j = false) := fun j hj => by
          by_cases e : j = i
          · subst e; exact hbad
          · exact HB.out j (by omega)
        clear HB
        go_wp2
        go_roundw
        case rel => exact ⟨i + 1, by omega, by go_num, HB2, BB⟩
        case measure => simp [intOf]; omega
    · obtain rfl : i = n := by omega
      have g1 : ¬ (i : Int) < (i : Int) := by omega
      have HR : Hid (rpV 8 (fb (bad0 F t i) i) = .tuple #[.int .i64 (-1), .int .i64 0]) := rpV_none HB.out
      go_wp2
      go_ret2
      exact ⟨congrArg Ending.returned HR.out.symm, BB⟩
set_option maxRecDepth 100000 in
set_option maxHeartbeats 8000000 in
theorem lrule1_at (v : Value) (n : Nat) (t : Nat → Nd) (F : Int) (L : Nat) (w : World) (hv : TRow w v n t L) (hn : n ≤ 255) :
    Calls Tryd.prog 20 #[v, .int .i64 F, .int .i64 1] w fun e w' => e = .returned (rpV 11 (fb (bad1 t n) n)) ∧ Below w.heap.size w w' := by
  obtain ⟨ao, c, rfl, hnc, hc63⟩ := hv.open
  have BB : Below w.heap.size w w := Below.refl _ _
  go_enter Tryd.func20, Tryd.ntmps20
  go_wp2
  go_loopw [8] (fun vi wr => ∃ i : Nat, i ≤ n ∧ vi = .int .i64 (i : Int) ∧ Hid (∀ j, j < i → (bad1 t n) j = false) ∧ Below w.heap.size w wr) (fun vi _ => n - (intOf vi).toNat)
  case atStart => exact ⟨0, by omega, rfl, fun j hj => by omega, BB⟩
  case round =>
    clear BB
    obtain ⟨i, hi, rfl, HB, BB⟩ := hrel
    by_cases hlt : i < n
    · have g1 : (i : Int) < (n : Int) := by omega
      have g0 : (0 : Int) ≤ (i : Int) := by omega
      have hv1 := hv.below BB
      obtain ⟨b, off, cc, p1, a1, n1, c1, b1, m1, d1, p2, a2, n2, c2, b2, m2, d2, p3, a3, n3, c3, b3, m3, d3, hvv, hcc, hc6, NN, r1, r2, r3, i1, i2, i3⟩ := hv1.at hlt
      cases hvv
      clear r1 r2 r3 i1 i2 i3
      have HP : Hid (bad1 t n i = (decide (1 ≤ i) && decide (par t i n ≠ 1))) := rfl
      by_cases hi0 : i = 0
      · have hbad : bad1 t n i = false := by rw [HP.out, decide_eq_false (show ¬ 1 ≤ i by omega)]; rfl
        have h0 : ¬ (i : Int) > 0 := by omega
        have h0b : decide ((i : Int) > 0) = false := decide_eq_false h0
        have h0n : ¬ 0 < i := by omega
        have HI0 : Hid (i = 0) := hi0
        clear hi0 HP hv1
        obtain ⟨N_0, N_1, N_2, N_3, N_4, N_5, N_6, N_7, N_8, N_9, N_10, N_11, N_12, N_13⟩ := id NN
        obtain ⟨W1, rfl, hS1, hL1, VN, FN⟩ := V14.lay wr 41 (.bool (t i).leaf) (.int .i64 (t i).feat) (.bool p1) (.slice a1 n1 c1) (.slice b1 m1 d1) (.int .i64 (t i).left) (.int .i64 (t i).right) (.bool (t i).miss) (.bool p2) (.slice a2 n2 c2) (.slice b2 m2 d2) (.bool p3) (.slice a3 n3 c3) (.slice b3 m3 d3)
        replace BB := BB.trans (hL1.mono BB.size)
        obtain ⟨V_0, V_1, V_2, V_3, V_4, V_5, V_6, V_7, V_8, V_9, V_10, V_11, V_12, V_13⟩ := id VN
        have HB2 : Hid (∀ j, j < i + 1 → (bad1 t n) j = false) := fun j hj => by
          by_cases e : j = i
          · subst e; exact hbad
          · exact HB.out j (by omega)
        clear HB
        go_wp2
        go_roundw
        case rel => exact ⟨i + 1, by omega, by go_num, HB2, BB⟩
        case measure => simp [intOf]; omega
      · have h0 : (i : Int) > 0 := by omega
        have h0b : decide ((i : Int) > 0) = true := decide_eq_true h0
        obtain ⟨N_0, N_1, N_2, N_3, N_4, N_5, N_6, N_7, N_8, N_9, N_10, N_11, N_12, N_13⟩ := id NN
        obtain ⟨W1, hW1, hS1, hL1, VN, FN⟩ := V14.lay wr 41 (.bool (t i).leaf) (.int .i64 (t i).feat) (.bool p1) (.slice a1 n1 c1) (.slice b1 m1 d1) (.int .i64 (t i).left) (.int .i64 (t i).right) (.bool (t i).miss) (.bool p2) (.slice a2 n2 c2) (.slice b2 m2 d2) (.bool p3) (.slice a3 n3 c3) (.slice b3 m3 d3)
        replace hv1 := hv1.below hL1
        replace BB := BB.trans (hL1.mono BB.size)
        clear hL1
        obtain ⟨V_0, V_1, V_2, V_3, V_4, V_5, V_6, V_7, V_8, V_9, V_10, V_11, V_12, V_13⟩ := id VN
        rw [hW1] at V_0 V_1 V_2 V_3 V_4 V_5 V_6 V_7 V_8 V_9 V_10 V_11 V_12 V_13
        go_wp2_with fail
        clear V_0 V_1 V_2 V_3 V_4 V_5 V_6 V_7 V_8 V_9 V_10 V_11 V_12 V_13
        clear N_0 N_1 N_2 N_3 N_4 N_5 N_6 N_7 N_8 N_9 N_10 N_11 N_12 N_13
        rw [← hW1]
        generalize wr.heap.size = R1 at *
        clear hW1 hS1
        refine (lparents_at _ n i t L _ hv1 hn).mono ?_
        rintro e w1 ⟨rfl, b1⟩
        replace hv1 := hv1.below b1
        replace BB := BB.trans (b1.mono BB.size)
        clear b1
        have hpb := par_le t i n
        by_cases hp : par t i n = 1
        · have hbad : bad1 t n i = false := by rw [HP.out, hp]; simp
          clear HP
          rw [hp]
          have HPP : Hid (par t i n = 1) := hp
          clear hp
          have HB2 : Hid (∀ j, j < i + 1 → (bad1 t n) j = false) := fun j hj => by
            by_cases e : j = i
            · subst e; exact hbad
            · exact HB.out j (by omega)
          clear HB
          go_wp2
          go_roundw
          case rel => exact ⟨i + 1, by omega, by go_num, HB2, BB⟩
          case measure => simp [intOf]; omega
        · have hbad : bad1 t n i = true := by rw [HP.out, decide_eq_true hp, decide_eq_true (show 1 ≤ i by omega)]; rfl
          clear HP
          have hpi : ¬ ((par t i n : Nat) : Int) = 1 := by omega
          have hpb2 : (((par t i n : Nat) : Int) != 1) = true := by simp; omega
          have HR : Hid (rpV 11 (fb (bad1 t n) n) = .tuple #[.int .i64 (i : Int), .int .i64 11]) := rpV_some hlt HB.out hbad
          clear HB
          go_wp2
          go_ret2
          exact ⟨congrArg Ending.returned HR.out.symm, BB⟩
    · obtain rfl : i = n := by omega
      have g1 : ¬ (i : Int) < (i : Int) := by omega
      have HR : Hid (rpV 11 (fb (bad1 t i) i) = .tuple #[.int .i64 (-1), .int .i64 0]) := rpV_none HB.out
      go_wp2
      go_ret2
      exact ⟨congrArg Ending.returned HR.out.symm, BB⟩
set_option maxRecDepth 100000 in
set_option maxHeartbeats 8000000 in
theorem lrule2_at (v : Value) (n : Nat) (t : Nat → Nd) (F : Int) (L : Nat) (w : World) (hv : TRow w v n t L) (hn : n ≤ 255) :
    Calls Tryd.prog 20 #[v, .int .i64 F, .int .i64 2] w fun e w' => e = .returned (rpV 11 (fb (bad2 t n) n)) ∧ Below w.heap.size w w' := by
  obtain ⟨ao, c, rfl, hnc, hc63⟩ := hv.open
  have BB : Below w.heap.size w w := Below.refl _ _
  go_enter Tryd.func20, Tryd.ntmps20
  go_wp2
  go_loopw [8] (fun vi wr => ∃ i : Nat, i ≤ n ∧ vi = .int .i64 (i : Int) ∧ Hid (∀ j, j < i → (bad2 t n) j = false) ∧ Below w.heap.size w wr) (fun vi _ => n - (intOf vi).toNat)
  case atStart => exact ⟨0, by omega, rfl, fun j hj => by omega, BB⟩
  case round =>
    clear BB
    obtain ⟨i, hi, rfl, HB, BB⟩ := hrel
    by_cases hlt : i < n
    · have g1 : (i : Int) < (n : Int) := by omega
      have g0 : (0 : Int) ≤ (i : Int) := by omega
      have hv1 := hv.below BB
      obtain ⟨b, off, cc, p1, a1, n1, c1, b1, m1, d1, p2, a2, n2, c2, b2, m2, d2, p3, a3, n3, c3, b3, m3, d3, hvv, hcc, hc6, NN, r1, r2, r3, i1, i2, i3⟩ := hv1.at hlt
      cases hvv
      clear r1 r2 r3 i1 i2 i3
      have HP : Hid (bad2 t n i = !lawUp t n (n + 1) i) := rfl
      obtain ⟨N_0, N_1, N_2, N_3, N_4, N_5, N_6, N_7, N_8, N_9, N_10, N_11, N_12, N_13⟩ := id NN
      obtain ⟨W1, hW1, hS1, hL1, VN, FN⟩ := V14.lay wr 41 (.bool (t i).leaf) (.int .i64 (t i).feat) (.bool p1) (.slice a1 n1 c1) (.slice b1 m1 d1) (.int .i64 (t i).left) (.int .i64 (t i).right) (.bool (t i).miss) (.bool p2) (.slice a2 n2 c2) (.slice b2 m2 d2) (.bool p3) (.slice a3 n3 c3) (.slice b3 m3 d3)
      replace hv1 := hv1.below hL1
      replace BB := BB.trans (hL1.mono BB.size)
      clear hL1
      obtain ⟨V_0, V_1, V_2, V_3, V_4, V_5, V_6, V_7, V_8, V_9, V_10, V_11, V_12, V_13⟩ := id VN
      rw [hW1] at V_0 V_1 V_2 V_3 V_4 V_5 V_6 V_7 V_8 V_9 V_10 V_11 V_12 V_13
      go_wp2_with fail
      clear V_0 V_1 V_2 V_3 V_4 V_5 V_6 V_7 V_8 V_9 V_10 V_11 V_12 V_13
      clear N_0 N_1 N_2 N_3 N_4 N_5 N_6 N_7 N_8 N_9 N_10 N_11 N_12 N_13
      rw [← hW1]
      generalize wr.heap.size = R1 at *
      clear hW1 hS1
      refine (lreached_at _ n i t L _ hv1 hn hlt).mono ?_
      rintro e w1 ⟨rfl, b1⟩
      replace hv1 := hv1.below b1
      replace BB := BB.trans (b1.mono BB.size)
      clear b1
      obtain ⟨lu, hlu⟩ : ∃ z, lawUp t n (n + 1) i = z := ⟨_, rfl⟩
      rw [hlu] at HP ⊢
      clear hlu
      cases lu
      · have hbad : bad2 t n i = true := by rw [HP.out]; rfl
        clear HP
        have HR : Hid (rpV 11 (fb (bad2 t n) n) = .tuple #[.int .i64 (i : Int), .int .i64 11]) := rpV_some hlt HB.out hbad
        clear HB
        go_wp2
        go_ret2
        exact ⟨congrArg Ending.returned HR.out.symm, BB⟩
      · have hbad : bad2 t n i = false := by rw [HP.out]; rfl
        clear HP
        have HB2 : Hid (∀ j, j < i + 1 → (bad2 t n) j = false) := fun j hj => by
          by_cases e : j = i
          · subst e; exact hbad
          · exact HB.out j (by omega)
        clear HB
        go_wp2
        go_roundw
        case rel => exact ⟨i + 1, by omega, by go_num, HB2, BB⟩
        case measure => simp [intOf]; omega
    · obtain rfl : i = n := by omega
      have g1 : ¬ (i : Int) < (i : Int) := by omega
      have HR : Hid (rpV 11 (fb (bad2 t i) i) = .tuple #[.int .i64 (-1), .int .i64 0]) := rpV_none HB.out
      go_wp2
      go_ret2
      exact ⟨congrArg Ending.returned HR.out.symm, BB⟩
set_option maxRecDepth 100000 in
set_option maxHeartbeats 8000000 in
theorem lrule3_at (v : Value) (n : Nat) (t : Nat → Nd) (F : Int) (L : Nat) (w : World) (hv : TRow w v n t L) (hn : n ≤ 255) (hL : 1 ≤ L) (hLM : L ≤ 100000) :
    Calls Tryd.prog 20 #[v, .int .i64 F, .int .i64 3] w fun e w' => e = .returned (rpV 12 (fb (bad3 t) n)) ∧ Below w.heap.size w w' := by
  obtain ⟨ao, c, rfl, hnc, hc63⟩ := hv.open
  have BB : Below w.heap.size w w := Below.refl _ _
  go_enter Tryd.func20, Tryd.ntmps20
  go_wp2
  go_loopw [8] (fun vi wr => ∃ i : Nat, i ≤ n ∧ vi = .int .i64 (i : Int) ∧ Hid (∀ j, j < i → (bad3 t) j = false) ∧ Below w.heap.size w wr) (fun vi _ => n - (intOf vi).toNat)
  case atStart => exact ⟨0, by omega, rfl, fun j hj => by omega, BB⟩
  case round =>
    clear BB
    obtain ⟨i, hi, rfl, HB, BB⟩ := hrel
    by_cases hlt : i < n
    · have g1 : (i : Int) < (n : Int) := by omega
      have g0 : (0 : Int) ≤ (i : Int) := by omega
      have hv1 := hv.below BB
      obtain ⟨b, off, cc, p1, a1, n1, c1, b1, m1, d1, p2, a2, n2, c2, b2, m2, d2, p3, a3, n3, c3, b3, m3, d3, hvv, hcc, hc6, NN, r1, r2, r3, i1, i2, i3⟩ := hv1.at hlt
      cases hvv
      clear hv1 r1 r2 i1 i2 i3
      have HP : Hid (bad3 t i = decide ((t i).cov ≤ 0)) := rfl
      obtain ⟨N_0, N_1, N_2, N_3, N_4, N_5, N_6, N_7, N_8, N_9, N_10, N_11, N_12, N_13⟩ := id NN
      obtain ⟨W1, hW1, hS1, hL1, VN, FN⟩ := V14.lay wr 41 (.bool (t i).leaf) (.int .i64 (t i).feat) (.bool p1) (.slice a1 n1 c1) (.slice b1 m1 d1) (.int .i64 (t i).left) (.int .i64 (t i).right) (.bool (t i).miss) (.bool p2) (.slice a2 n2 c2) (.slice b2 m2 d2) (.bool p3) (.slice a3 n3 c3) (.slice b3 m3 d3)
      replace r3 := r3.below hL1
      replace BB := BB.trans (hL1.mono BB.size)
      clear hL1
      obtain ⟨V_0, V_1, V_2, V_3, V_4, V_5, V_6, V_7, V_8, V_9, V_10, V_11, V_12, V_13⟩ := id VN
      rw [hW1] at V_0 V_1 V_2 V_3 V_4 V_5 V_6 V_7 V_8 V_9 V_10 V_11 V_12 V_13
      go_wp2_with fail
      clear V_0 V_1 V_2 V_3 V_4 V_5 V_6 V_7 V_8 V_9 V_10 V_11 V_12 V_13
      clear N_0 N_1 N_2 N_3 N_4 N_5 N_6 N_7 N_8 N_9 N_10 N_11 N_12 N_13
      rw [← hW1]
      generalize wr.heap.size = R1 at *
      clear hW1 hS1
      refine (qsign_at _ (t i).cov L _ r3 hL hLM).mono ?_
      rintro e w1 ⟨rfl, b1⟩
      replace r3 := r3.below b1
      replace BB := BB.trans (b1.mono BB.size)
      clear b1
      have hcq := cmpQ_le (t i).cov 0
      obtain ⟨cq, hq⟩ : ∃ z, cmpQ (t i).cov 0 = z := ⟨_, rfl⟩
      rw [hq] at hcq
      rw [hq]
      have HCQ : Hid (decide (cq ≤ 0) = decide ((t i).cov ≤ 0)) := hcq
      clear hq hcq
      by_cases hc : cq ≤ 0
      · have hcb : decide (cq ≤ 0) = true := decide_eq_true hc
        have hbad : bad3 t i = true := by rw [HP.out, ← HCQ.out]; exact hcb
        clear HP HCQ
        have HR : Hid (rpV 12 (fb (bad3 t) n) = .tuple #[.int .i64 (i : Int), .int .i64 12]) := rpV_some hlt HB.out hbad
        clear HB
        go_wp2
        go_ret2
        exact ⟨congrArg Ending.returned HR.out.symm, BB⟩
      · have hcb : decide (cq ≤ 0) = false := decide_eq_false hc
        have hbad : bad3 t i = false := by rw [HP.out, ← HCQ.out]; exact hcb
        clear HP HCQ
        have HB2 : Hid (∀ j, j < i + 1 → (bad3 t) j = false) := fun j hj => by
          by_cases e : j = i
          · subst e; exact hbad
          · exact HB.out j (by omega)
        clear HB
        go_wp2
        go_roundw
        case rel => exact ⟨i + 1, by omega, by go_num, HB2, BB⟩
        case measure => simp [intOf]; omega
    · obtain rfl : i = n := by omega
      have g1 : ¬ (i : Int) < (i : Int) := by omega
      have HR : Hid (rpV 12 (fb (bad3 t) i) = .tuple #[.int .i64 (-1), .int .i64 0]) := rpV_none HB.out
      go_wp2
      go_ret2
      exact ⟨congrArg Ending.returned HR.out.symm, BB⟩
set_option maxRecDepth 100000 in
set_option maxHeartbeats 8000000 in
theorem lrule4_at (v : Value) (n : Nat) (t : Nat → Nd) (F : Int) (L : Nat) (w : World) (hv : TRow w v n t L) (hn : n ≤ 255) (ht : Tab w) (hN : Named t n) (hL : 1 ≤ L) (hLM : L ≤ 30000) :
    Calls Tryd.prog 20 #[v, .int .i64 F, .int .i64 4] w fun e w' => e = .returned (rpV 13 (fb (bad4 t) n)) ∧ Below w.heap.size w w' := by
  obtain ⟨ao, c, rfl, hnc, hc63⟩ := hv.open
  have HN : Hid (Named t n) := hN
  clear hN
  have BB : Below w.heap.size w w := Below.refl _ _
  go_enter Tryd.func20, Tryd.ntmps20
  go_wp2
  go_loopw [8] (fun vi wr => ∃ i : Nat, i ≤ n ∧ vi = .int .i64 (i : Int) ∧ Hid (∀ j, j < i → (bad4 t) j = false) ∧ Below w.heap.size w wr) (fun vi _ => n - (intOf vi).toNat)
  case atStart => exact ⟨0, by omega, rfl, fun j hj => by omega, BB⟩
  case round =>
    clear BB
    obtain ⟨i, hi, rfl, HB, BB⟩ := hrel
    by_cases hlt : i < n
    · have g1 : (i : Int) < (n : Int) := by omega
      have g0 : (0 : Int) ≤ (i : Int) := by omega
      have hv1 := hv.below BB
      obtain ⟨b, off, cc, p1, a1, n1, c1, b1, m1, d1, p2, a2, n2, c2, b2, m2, d2, p3, a3, n3, c3, b3, m3, d3, hvv, hcc, hc6, NN, r1, r2, r3, i1, i2, i3⟩ := hv1.at hlt
      cases hvv
      clear r1 r2 i1 i2 i3
      have HNI := HN.out i hlt
      obtain ⟨lf, hlf⟩ : ∃ z, (t i).leaf = z := ⟨_, rfl⟩
      obtain ⟨ft, hft⟩ : ∃ z, (t i).feat = z := ⟨_, rfl⟩
      obtain ⟨ll, hll⟩ : ∃ z, (t i).left = z := ⟨_, rfl⟩
      obtain ⟨rr, hrr⟩ : ∃ z, (t i).right = z := ⟨_, rfl⟩
      have HLF : Hid ((t i).leaf = lf) := hlf
      have HLL : Hid ((t i).left = ll) := hll
      have HRR : Hid ((t i).right = rr) := hrr
      rw [hlf, hll, hrr] at HNI
      rw [hlf, hft, hll, hrr] at NN
      clear hlf hft hll hrr
      generalize (t i).miss = ms at NN
      cases lf
      · obtain ⟨n1_, n2_, n3_, n4_⟩ := HNI rfl
        obtain ⟨l, rfl⟩ : ∃ l : Nat, ll = (l : Int) := ⟨ll.toNat, by omega⟩
        obtain ⟨m, rfl⟩ : ∃ m : Nat, rr = (m : Int) := ⟨rr.toNat, by omega⟩
        have hl1 : l < n := by omega
        have hm1 : m < n := by omega
        have e1 : (0 : Int) ≤ (l : Int) := by omega
        have e2 : (l : Int) < (n : Int) := by omega
        have e3 : (0 : Int) ≤ (m : Int) := by omega
        have e4 : (m : Int) < (n : Int) := by omega
        clear HNI
        obtain ⟨bL, offL, ccL, p1L, a1L, n1L, c1L, b1L, m1L, d1L, p2L, a2L, n2L, c2L, b2L, m2L, d2L, p3L, a3L, n3L, c3L, b3L, m3L, d3L, hvvL, hccL, hc6L, NNL, r1L, r2L, r3L, i1L, i2L, i3L⟩ := hv1.at hl1
        cases hvvL
        obtain ⟨bM, offM, ccM, p1M, a1M, n1M, c1M, b1M, m1M, d1M, p2M, a2M, n2M, c2M, b2M, m2M, d2M, p3M, a3M, n3M, c3M, b3M, m3M, d3M, hvvM, hccM, hc6M, NNM, r1M, r2M, r3M, i1M, i2M, i3M⟩ := hv1.at hm1
        cases hvvM
        clear hv1 r1L r2L r1M r2M i1L i2L i3L i1M i2M i3M
        have HP : Hid (bad4 t i = !decide ((t i).cov = (t l).cov + (t m).cov)) := bad4_split HLF.out HLL.out HRR.out
        have sl := r3L.qsz hL
        have sm := r3M.qsz hL
        have sS : qsz ((t l).cov + (t m).cov) ≤ L + L + 1 := qsz_add _ _ sl sm
        clear HLF HLL HRR
        have ht1 := ht.below BB
        obtain ⟨N_0, N_1, N_2, N_3, N_4, N_5, N_6, N_7, N_8, N_9, N_10, N_11, N_12, N_13⟩ := id NN
        obtain ⟨W21, hW21, hS21, hL21, VN, FN⟩ := V14.lay wr 41 (.bool false) (.int .i64 ft) (.bool p1) (.slice a1 n1 c1) (.slice b1 m1 d1) (.int .i64 (l : Int)) (.int .i64 (m : Int)) (.bool ms) (.bool p2) (.slice a2 n2 c2) (.slice b2 m2 d2) (.bool p3) (.slice a3 n3 c3) (.slice b3 m3 d3)
        replace NNL := NNL.below hL21
        replace NNM := NNM.below hL21
        replace r3 := r3.below hL21
        replace r3L := r3L.below hL21
        replace r3M := r3M.below hL21
        replace ht1 := ht1.below hL21
        replace BB := BB.trans (hL21.mono BB.size)
        clear hL21
        obtain ⟨V_0, V_1, V_2, V_3, V_4, V_5, V_6, V_7, V_8, V_9, V_10, V_11, V_12, V_13⟩ := id VN
        rw [hW21] at V_0 V_1 V_2 V_3 V_4 V_5 V_6 V_7 V_8 V_9 V_10 V_11 V_12 V_13
        go_wp2
        clear V_0 V_1 V_2 V_3 V_4 V_5 V_6 V_7 V_8 V_9 V_10 V_11 V_12 V_13
        clear N_0 N_1 N_2 N_3 N_4 N_5 N_6 N_7 N_8 N_9 N_10 N_11 N_12 N_13
        rw [← hW21]
        generalize wr.heap.size = R21 at *
        clear hW21 hS21
        by_cases hq : (t i).cov = (t l).cov + (t m).cov
        · have hDr : Below W21.heap.size W21 W21.drew := (Below.refl _ _).drew
          replace NNL := NNL.below hDr
          replace NNM := NNM.below hDr
          replace r3 := r3.below hDr
          replace r3L := r3L.below hDr
          replace r3M := r3M.below hDr
          replace ht1 := ht1.below hDr
          replace VN := VN.below hDr
          replace BB := BB.trans (hDr.mono BB.size)
          clear hDr
          refine wp_region_held_drew (S := (fun w' => w'.cell? ⟨R21, 0, none⟩ = some (.bool false) ∧ w'.cell? ⟨R21, 5, none⟩ = some (.int .i64 (l : Int)) ∧ w'.cell? ⟨R21, 6, none⟩ = some (.int .i64 (m : Int)) ∧ w'.cell? ⟨R21, 11, none⟩ = some (.bool p3) ∧ w'.cell? ⟨R21, 12, none⟩ = some (.slice a3 n3 c3) ∧ w'.cell? ⟨R21, 13, none⟩ = some (.slice b3 m3 d3) ∧ w'.cell? ⟨b, off + l * 14 + 11, none⟩ = some (.bool p3L) ∧ w'.cell? ⟨b, off + l * 14 + 12, none⟩ = some (.slice a3L n3L c3L) ∧ w'.cell? ⟨b, off + l * 14 + 13, none⟩ = some (.slice b3L m3L d3L) ∧ w'.cell? ⟨b, off + m * 14 + 11, none⟩ = some (.bool p3M) ∧ w'.cell? ⟨b, off + m * 14 + 12, none⟩ = some (.slice a3M n3M c3M) ∧ w'.cell? ⟨b, off + m * 14 + 13, none⟩ = some (.slice b3M m3M d3M))) (by kernel_rfl) ?_ (fun hHeld => ?_)
          · exact ⟨VN.c0, VN.c5, VN.c6, VN.c11, VN.c12, VN.c13, NNL.c11, NNL.c12, NNL.c13, NNM.c11, NNM.c12, NNM.c13⟩
          generalize W21.drew = W22 at *
          refine wpAnyH_take (i := 0) (v := ?_) (by simp only [List.getElem?_toArray, List.getElem?_cons_succ, List.getElem?_cons_zero]; rfl) (by kernel_rfl) (by kernel_rfl) (by kernel_rfl) (by exact fun _ _ _ h => h) (Or.inl ⟨by rfl, ?_⟩) (by assumption) ?_
          rotate_left
          · (intro w hSw; (try dsimp only at hSw); go_simp; (try with_reducible rfl))
          (try simp only [Act.put, List.setIfInBounds_toArray, List.set_cons_zero, List.set_cons_succ])
          refine wpAnyH_take (i := 1) (v := ?_) (by simp only [List.getElem?_toArray, List.getElem?_cons_succ, List.getElem?_cons_zero]; rfl) (by kernel_rfl) (by kernel_rfl) (by kernel_rfl) (by exact fun _ _ _ h => h) (Or.inl ⟨by rfl, ?_⟩) (by assumption) ?_
          rotate_left
          · (intro w hSw; (try dsimp only at hSw); go_simp; (try with_reducible rfl))
          (try simp only [Act.put, List.setIfInBounds_toArray, List.set_cons_zero, List.set_cons_succ])
          refine wpAnyH_take (i := 2) (v := ?_) (by simp only [List.getElem?_toArray, List.getElem?_cons_succ, List.getElem?_cons_zero]; rfl) (by kernel_rfl) (by kernel_rfl) (by kernel_rfl) (by exact fun _ _ _ h => h) (Or.inl ⟨by rfl, ?_⟩) (by assumption) ?_
          rotate_left
          · (intro w hSw; (try dsimp only at hSw); go_simp; (try with_reducible rfl))
          (try simp only [Act.put, List.setIfInBounds_toArray, List.set_cons_zero, List.set_cons_succ])
          refine wpAnyH_take (i := 3) (v := ?_) (by simp only [List.getElem?_toArray, List.getElem?_cons_succ, List.getElem?_cons_zero]; rfl) (by kernel_rfl) (by kernel_rfl) (by kernel_rfl) (by exact fun _ _ _ h => h) (Or.inl ⟨by rfl, ?_⟩) (by assumption) ?_
          rotate_left
          · (intro w hSw; (try dsimp only at hSw); go_simp; (try with_reducible rfl))
          (try simp only [Act.put, List.setIfInBounds_toArray, List.set_cons_zero, List.set_cons_succ])
          refine wpAnyH_take (i := 4) (v := ?_) (by simp only [List.getElem?_toArray, List.getElem?_cons_succ, List.getElem?_cons_zero]; rfl) (by kernel_rfl) (by kernel_rfl) (by kernel_rfl) (by exact fun _ _ _ h => h) (Or.inl ⟨by rfl, ?_⟩) (by assumption) ?_
          rotate_left
          · (intro w hSw; (try dsimp only at hSw); go_simp; (try with_reducible rfl))
          (try simp only [Act.put, List.setIfInBounds_toArray, List.set_cons_zero, List.set_cons_succ])
          refine wpAnyH_take (i := 5) (v := ?_) (by simp only [List.getElem?_toArray, List.getElem?_cons_succ, List.getElem?_cons_zero]; rfl) (by kernel_rfl) (by kernel_rfl) (by kernel_rfl) (by exact fun _ _ _ h => h) (Or.inl ⟨by rfl, ?_⟩) (by assumption) ?_
          rotate_left
          · (intro w hSw; (try dsimp only at hSw); go_simp; (try with_reducible rfl))
          (try simp only [Act.put, List.setIfInBounds_toArray, List.set_cons_zero, List.set_cons_succ])
          refine wpAnyH_take (i := 6) (v := ?_) (by simp only [List.getElem?_toArray, List.getElem?_cons_succ, List.getElem?_cons_zero]; rfl) (by kernel_rfl) (by kernel_rfl) (by kernel_rfl) (by exact fun _ _ _ h => h) (Or.inl ⟨by rfl, ?_⟩) (by assumption) ?_
          rotate_left
          · (intro w hSw; (try dsimp only at hSw); go_simp; (try with_reducible rfl))
          (try simp only [Act.put, List.setIfInBounds_toArray, List.set_cons_zero, List.set_cons_succ])
          refine wpAnyH_take (i := 7) (v := ?_) (by simp only [List.getElem?_toArray, List.getElem?_cons_succ, List.getElem?_cons_zero]; rfl) (by kernel_rfl) (by kernel_rfl) (by kernel_rfl) (by exact fun _ _ _ h => h) (Or.inl ⟨by rfl, ?_⟩) (by assumption) ?_
          rotate_left
          · (intro w hSw; (try dsimp only at hSw); go_simp; (try with_reducible rfl))
          (try simp only [Act.put, List.setIfInBounds_toArray, List.set_cons_zero, List.set_cons_succ])
          refine wpAnyH_take (i := 8) (v := ?_) (by simp only [List.getElem?_toArray, List.getElem?_cons_succ, List.getElem?_cons_zero]; rfl) (by kernel_rfl) (by kernel_rfl) (by kernel_rfl) (by exact fun _ _ _ h => h) (Or.inl ⟨by rfl, ?_⟩) (by assumption) ?_
          rotate_left
          · (intro w hSw; (try dsimp only at hSw); go_simp; (try with_reducible rfl))
          (try simp only [Act.put, List.setIfInBounds_toArray, List.set_cons_zero, List.set_cons_succ])
          refine wpAnyH_take (i := 9) (v := ?_) (by simp only [List.getElem?_toArray, List.getElem?_cons_succ, List.getElem?_cons_zero]; rfl) (by kernel_rfl) (by kernel_rfl) (by kernel_rfl) (by exact fun _ _ _ h => h) (Or.inl ⟨by rfl, ?_⟩) (by assumption) ?_
          rotate_left
          · (intro w hSw; (try dsimp only at hSw); go_simp; (try with_reducible rfl))
          (try simp only [Act.put, List.setIfInBounds_toArray, List.set_cons_zero, List.set_cons_succ])
          refine wpAnyH_take (i := 10) (v := ?_) (by simp only [List.getElem?_toArray, List.getElem?_cons_succ, List.getElem?_cons_zero]; rfl) (by kernel_rfl) (by kernel_rfl) (by kernel_rfl) (by exact fun _ _ _ h => h) (Or.inl ⟨by rfl, ?_⟩) (by assumption) ?_
          rotate_left
          · (intro w hSw; (try dsimp only at hSw); go_simp; (try with_reducible rfl))
          (try simp only [Act.put, List.setIfInBounds_toArray, List.set_cons_zero, List.set_cons_succ])
          refine wpAnyH_take (i := 11) (v := ?_) (by simp only [List.getElem?_toArray, List.getElem?_cons_succ, List.getElem?_cons_zero]; rfl) (by kernel_rfl) (by kernel_rfl) (by kernel_rfl) (by exact fun _ _ _ h => h) (Or.inl ⟨by rfl, ?_⟩) (by assumption) ?_
          rotate_left
          · (intro w hSw; (try dsimp only at hSw); go_simp; (try with_reducible rfl))
          (try simp only [Act.put, List.setIfInBounds_toArray, List.set_cons_zero, List.set_cons_succ])
          refine wpAnyH_take (i := 12) (v := ?_) (by simp only [List.getElem?_toArray, List.getElem?_cons_succ, List.getElem?_cons_zero]; rfl) (by kernel_rfl) (by kernel_rfl) (by kernel_rfl) (by exact fun _ _ _ h => h) (Or.inl ⟨by rfl, ?_⟩) (by assumption) ?_
          rotate_left
          · (intro w hSw; (try dsimp only at hSw); go_simp; (try with_reducible rfl))
          (try simp only [Act.put, List.setIfInBounds_toArray, List.set_cons_zero, List.set_cons_succ])
          refine wpAnyH_take (i := 13) (v := ?_) (by simp only [List.getElem?_toArray, List.getElem?_cons_succ, List.getElem?_cons_zero]; rfl) (by kernel_rfl) (by kernel_rfl) (by kernel_rfl) (by exact fun _ _ _ h => h) (Or.inl ⟨by rfl, ?_⟩) (by assumption) ?_
          rotate_left
          · (intro w hSw; (try dsimp only at hSw); go_simp; (try with_reducible rfl))
          (try simp only [Act.put, List.setIfInBounds_toArray, List.set_cons_zero, List.set_cons_succ])
          refine wpAnyH_take (i := 14) (v := ?_) (by simp only [List.getElem?_toArray, List.getElem?_cons_succ, List.getElem?_cons_zero]; rfl) (by kernel_rfl) (by kernel_rfl) (by kernel_rfl) (by exact fun _ _ _ h => h) (Or.inl ⟨by rfl, ?_⟩) (by assumption) ?_
          rotate_left
          · (intro w hSw; (try dsimp only at hSw); go_simp; (try with_reducible rfl))
          (try simp only [Act.put, List.setIfInBounds_toArray, List.set_cons_zero, List.set_cons_succ])
          refine wpAnyH_take (i := 15) (v := ?_) (by simp only [List.getElem?_toArray, List.getElem?_cons_succ, List.getElem?_cons_zero]; rfl) (by kernel_rfl) (by kernel_rfl) (by kernel_rfl) (by exact fun _ _ _ h => h) (Or.inl ⟨by rfl, ?_⟩) (by assumption) ?_
          rotate_left
          · (intro w hSw; (try dsimp only at hSw); go_simp; (try with_reducible rfl))
          (try simp only [Act.put, List.setIfInBounds_toArray, List.set_cons_zero, List.set_cons_succ])
          refine wpAnyH_take (i := 16) (v := ?_) (by simp only [List.getElem?_toArray, List.getElem?_cons_succ, List.getElem?_cons_zero]; rfl) (by kernel_rfl) (by kernel_rfl) (by kernel_rfl) (by exact fun _ _ _ h => h) (Or.inl ⟨by rfl, ?_⟩) (by assumption) ?_
          rotate_left
          · (intro w hSw; (try dsimp only at hSw); go_simp; (try with_reducible rfl))
          (try simp only [Act.put, List.setIfInBounds_toArray, List.set_cons_zero, List.set_cons_succ])
          refine wpAnyH_take (i := 17) (v := ?_) (by simp only [List.getElem?_toArray, List.getElem?_cons_succ, List.getElem?_cons_zero]; rfl) (by kernel_rfl) (by kernel_rfl) (by kernel_rfl) (by exact fun _ _ _ h => h) (Or.inl ⟨by rfl, ?_⟩) (by assumption) ?_
          rotate_left
          · (intro w hSw; (try dsimp only at hSw); go_simp; (try with_reducible rfl))
          (try simp only [Act.put, List.setIfInBounds_toArray, List.set_cons_zero, List.set_cons_succ])
          refine wpAnyH_ready (rs := [18]) (by kernel_rfl) (by simp) ?_
          refine AllReadyH.cons (by simp only [List.getElem?_toArray, List.getElem?_cons_succ, List.getElem?_cons_zero]; rfl) (fun K hK => ?_) AllReadyH.nil
          go_simp
          refine (qadd_at _ _ (t l).cov (t m).cov L _ r3L r3M hL (by omega) ht1).mono ?_
          rintro e w21 ⟨x18, rfl, h18, b21⟩
          go_wp2_with fail
          replace NNL := NNL.below b21
          replace NNM := NNM.below b21
          replace r3 := r3.below b21
          replace r3L := r3L.below b21
          replace r3M := r3M.below b21
          replace ht1 := ht1.below b21
          replace VN := VN.below b21
          replace BB := BB.trans (b21.mono BB.size)
          clear b21
          refine hK.out _ _ ?_ (fun hH1 => ?_)
          · exact ⟨VN.c0, VN.c5, VN.c6, VN.c11, VN.c12, VN.c13, NNL.c11, NNL.c12, NNL.c13, NNM.c11, NNM.c12, NNM.c13⟩
          clear hK K hHeld
          (try simp only [Act.put, List.setIfInBounds_toArray, List.set_cons_zero, List.set_cons_succ])
          refine wpAnyH_ready (rs := [19]) (by kernel_rfl) (by simp) ?_
          refine AllReadyH.cons (by simp only [List.getElem?_toArray, List.getElem?_cons_succ, List.getElem?_cons_zero]; rfl) (fun K hK => ?_) AllReadyH.nil
          go_simp
          refine (qsame_at _ _ (t i).cov ((t l).cov + (t m).cov) (L + L + 1) _ (r3.le (by omega)) (h18.at (L + L + 1) sS) (by omega) (by omega)).mono ?_
          rintro e w22 ⟨rfl, b22⟩
          rw [decide_eq_true hq]
          go_wp2_with fail
          replace NNL := NNL.below b22
          replace NNM := NNM.below b22
          replace r3 := r3.below b22
          replace r3L := r3L.below b22
          replace r3M := r3M.below b22
          replace ht1 := ht1.below b22
          replace VN := VN.below b22
          replace h18 := h18.below b22
          replace BB := BB.trans (b22.mono BB.size)
          clear b22
          refine hK.out _ _ ?_ (fun hH2 => ?_)
          · exact ⟨VN.c0, VN.c5, VN.c6, VN.c11, VN.c12, VN.c13, NNL.c11, NNL.c12, NNL.c13, NNM.c11, NNM.c12, NNM.c13⟩
          clear hK K hH1
          (try simp only [Act.put, List.setIfInBounds_toArray, List.set_cons_zero, List.set_cons_succ])
          refine wpAnyH_take (i := 20) (v := ?_) (by simp only [List.getElem?_toArray, List.getElem?_cons_succ, List.getElem?_cons_zero]; rfl) (by kernel_rfl) (by kernel_rfl) (by kernel_rfl) (by exact fun _ _ _ h => h) (Or.inl ⟨by rfl, ?_⟩) (by assumption) ?_
          rotate_left
          · (intro w hSw; (try dsimp only at hSw); go_simp; (try with_reducible rfl))
          (try simp only [Act.put, List.setIfInBounds_toArray, List.set_cons_zero, List.set_cons_succ])
          refine wpAnyH_take (i := 21) (v := ?_) (by simp only [List.getElem?_toArray, List.getElem?_cons_succ, List.getElem?_cons_zero]; rfl) (by kernel_rfl) (by kernel_rfl) (by kernel_rfl) (by exact fun _ _ _ h => h) (Or.inl ⟨by rfl, ?_⟩) (by assumption) ?_
          rotate_left
          · (intro w hSw; (try dsimp only at hSw); go_simp; (try with_reducible rfl))
          (try simp only [Act.put, List.setIfInBounds_toArray, List.set_cons_zero, List.set_cons_succ])
          refine wpAnyH_done (by kernel_rfl) ?_ _
          clear hH2
          have HB2 : Hid (∀ j, j < i + 1 → (bad4 t) j = false) := fun j hj => by
            by_cases e : j = i
            · subst e; rw [HP.out, decide_eq_true hq]; rfl
            · exact HB.out j (by omega)
          clear HB
          go_wp2
          go_roundw
          case rel => exact ⟨i + 1, by omega, by go_num, HB2, BB⟩
          case measure => simp [intOf]; omega
        · have hDr : Below W21.heap.size W21 W21.drew := (Below.refl _ _).drew
          replace NNL := NNL.below hDr
          replace NNM := NNM.below hDr
          replace r3 := r3.below hDr
          replace r3L := r3L.below hDr
          replace r3M := r3M.below hDr
          replace ht1 := ht1.below hDr
          replace VN := VN.below hDr
          replace BB := BB.trans (hDr.mono BB.size)
          clear hDr
          refine wp_region_held_drew (S := (fun w' => w'.cell? ⟨R21, 0, none⟩ = some (.bool false) ∧ w'.cell? ⟨R21, 5, none⟩ = some (.int .i64 (l : Int)) ∧ w'.cell? ⟨R21, 6, none⟩ = some (.int .i64 (m : Int)) ∧ w'.cell? ⟨R21, 11, none⟩ = some (.bool p3) ∧ w'.cell? ⟨R21, 12, none⟩ = some (.slice a3 n3 c3) ∧ w'.cell? ⟨R21, 13, none⟩ = some (.slice b3 m3 d3) ∧ w'.cell? ⟨b, off + l * 14 + 11, none⟩ = some (.bool p3L) ∧ w'.cell? ⟨b, off + l * 14 + 12, none⟩ = some (.slice a3L n3L c3L) ∧ w'.cell? ⟨b, off + l * 14 + 13, none⟩ = some (.slice b3L m3L d3L) ∧ w'.cell? ⟨b, off + m * 14 + 11, none⟩ = some (.bool p3M) ∧ w'.cell? ⟨b, off + m * 14 + 12, none⟩ = some (.slice a3M n3M c3M) ∧ w'.cell? ⟨b, off + m * 14 + 13, none⟩ = some (.slice b3M m3M d3M))) (by kernel_rfl) ?_ (fun hHeld => ?_)
          · exact ⟨VN.c0, VN.c5, VN.c6, VN.c11, VN.c12, VN.c13, NNL.c11, NNL.c12, NNL.c13, NNM.c11, NNM.c12, NNM.c13⟩
          generalize W21.drew = W22 at *
          refine wpAnyH_take (i := 0) (v := ?_) (by simp only [List.getElem?_toArray, List.getElem?_cons_succ, List.getElem?_cons_zero]; rfl) (by kernel_rfl) (by kernel_rfl) (by kernel_rfl) (by exact fun _ _ _ h => h) (Or.inl ⟨by rfl, ?_⟩) (by assumption) ?_
          rotate_left
          · (intro w hSw; (try dsimp only at hSw); go_simp; (try with_reducible rfl))
          (try simp only [Act.put, List.setIfInBounds_toArray, List.set_cons_zero, List.set_cons_succ])
          refine wpAnyH_take (i := 1) (v := ?_) (by simp only [List.getElem?_toArray, List.getElem?_cons_succ, List.getElem?_cons_zero]; rfl) (by kernel_rfl) (by kernel_rfl) (by kernel_rfl) (by exact fun _ _ _ h => h) (Or.inl ⟨by rfl, ?_⟩) (by assumption) ?_
          rotate_left
          · (intro w hSw; (try dsimp only at hSw); go_simp; (try with_reducible rfl))
          (try simp only [Act.put, List.setIfInBounds_toArray, List.set_cons_zero, List.set_cons_succ])
          refine wpAnyH_take (i := 2) (v := ?_) (by simp only [List.getElem?_toArray, List.getElem?_cons_succ, List.getElem?_cons_zero]; rfl) (by kernel_rfl) (by kernel_rfl) (by kernel_rfl) (by exact fun _ _ _ h => h) (Or.inl ⟨by rfl, ?_⟩) (by assumption) ?_
          rotate_left
          · (intro w hSw; (try dsimp only at hSw); go_simp; (try with_reducible rfl))
          (try simp only [Act.put, List.setIfInBounds_toArray, List.set_cons_zero, List.set_cons_succ])
          refine wpAnyH_take (i := 3) (v := ?_) (by simp only [List.getElem?_toArray, List.getElem?_cons_succ, List.getElem?_cons_zero]; rfl) (by kernel_rfl) (by kernel_rfl) (by kernel_rfl) (by exact fun _ _ _ h => h) (Or.inl ⟨by rfl, ?_⟩) (by assumption) ?_
          rotate_left
          · (intro w hSw; (try dsimp only at hSw); go_simp; (try with_reducible rfl))
          (try simp only [Act.put, List.setIfInBounds_toArray, List.set_cons_zero, List.set_cons_succ])
          refine wpAnyH_take (i := 4) (v := ?_) (by simp only [List.getElem?_toArray, List.getElem?_cons_succ, List.getElem?_cons_zero]; rfl) (by kernel_rfl) (by kernel_rfl) (by kernel_rfl) (by exact fun _ _ _ h => h) (Or.inl ⟨by rfl, ?_⟩) (by assumption) ?_
          rotate_left
          · (intro w hSw; (try dsimp only at hSw); go_simp; (try with_reducible rfl))
          (try simp only [Act.put, List.setIfInBounds_toArray, List.set_cons_zero, List.set_cons_succ])
          refine wpAnyH_take (i := 5) (v := ?_) (by simp only [List.getElem?_toArray, List.getElem?_cons_succ, List.getElem?_cons_zero]; rfl) (by kernel_rfl) (by kernel_rfl) (by kernel_rfl) (by exact fun _ _ _ h => h) (Or.inl ⟨by rfl, ?_⟩) (by assumption) ?_
          rotate_left
          · (intro w hSw; (try dsimp only at hSw); go_simp; (try with_reducible rfl))
          (try simp only [Act.put, List.setIfInBounds_toArray, List.set_cons_zero, List.set_cons_succ])
          refine wpAnyH_take (i := 6) (v := ?_) (by simp only [List.getElem?_toArray, List.getElem?_cons_succ, List.getElem?_cons_zero]; rfl) (by kernel_rfl) (by kernel_rfl) (by kernel_rfl) (by exact fun _ _ _ h => h) (Or.inl ⟨by rfl, ?_⟩) (by assumption) ?_
          rotate_left
          · (intro w hSw; (try dsimp only at hSw); go_simp; (try with_reducible rfl))
          (try simp only [Act.put, List.setIfInBounds_toArray, List.set_cons_zero, List.set_cons_succ])
          refine wpAnyH_take (i := 7) (v := ?_) (by simp only [List.getElem?_toArray, List.getElem?_cons_succ, List.getElem?_cons_zero]; rfl) (by kernel_rfl) (by kernel_rfl) (by kernel_rfl) (by exact fun _ _ _ h => h) (Or.inl ⟨by rfl, ?_⟩) (by assumption) ?_
          rotate_left
          · (intro w hSw; (try dsimp only at hSw); go_simp; (try with_reducible rfl))
          (try simp only [Act.put, List.setIfInBounds_toArray, List.set_cons_zero, List.set_cons_succ])
          refine wpAnyH_take (i := 8) (v := ?_) (by simp only [List.getElem?_toArray, List.getElem?_cons_succ, List.getElem?_cons_zero]; rfl) (by kernel_rfl) (by kernel_rfl) (by kernel_rfl) (by exact fun _ _ _ h => h) (Or.inl ⟨by rfl, ?_⟩) (by assumption) ?_
          rotate_left
          · (intro w hSw; (try dsimp only at hSw); go_simp; (try with_reducible rfl))
          (try simp only [Act.put, List.setIfInBounds_toArray, List.set_cons_zero, List.set_cons_succ])
          refine wpAnyH_take (i := 9) (v := ?_) (by simp only [List.getElem?_toArray, List.getElem?_cons_succ, List.getElem?_cons_zero]; rfl) (by kernel_rfl) (by kernel_rfl) (by kernel_rfl) (by exact fun _ _ _ h => h) (Or.inl ⟨by rfl, ?_⟩) (by assumption) ?_
          rotate_left
          · (intro w hSw; (try dsimp only at hSw); go_simp; (try with_reducible rfl))
          (try simp only [Act.put, List.setIfInBounds_toArray, List.set_cons_zero, List.set_cons_succ])
          refine wpAnyH_take (i := 10) (v := ?_) (by simp only [List.getElem?_toArray, List.getElem?_cons_succ, List.getElem?_cons_zero]; rfl) (by kernel_rfl) (by kernel_rfl) (by kernel_rfl) (by exact fun _ _ _ h => h) (Or.inl ⟨by rfl, ?_⟩) (by assumption) ?_
          rotate_left
          · (intro w hSw; (try dsimp only at hSw); go_simp; (try with_reducible rfl))
          (try simp only [Act.put, List.setIfInBounds_toArray, List.set_cons_zero, List.set_cons_succ])
          refine wpAnyH_take (i := 11) (v := ?_) (by simp only [List.getElem?_toArray, List.getElem?_cons_succ, List.getElem?_cons_zero]; rfl) (by kernel_rfl) (by kernel_rfl) (by kernel_rfl) (by exact fun _ _ _ h => h) (Or.inl ⟨by rfl, ?_⟩) (by assumption) ?_
          rotate_left
          · (intro w hSw; (try dsimp only at hSw); go_simp; (try with_reducible rfl))
          (try simp only [Act.put, List.setIfInBounds_toArray, List.set_cons_zero, List.set_cons_succ])
          refine wpAnyH_take (i := 12) (v := ?_) (by simp only [List.getElem?_toArray, List.getElem?_cons_succ, List.getElem?_cons_zero]; rfl) (by kernel_rfl) (by kernel_rfl) (by kernel_rfl) (by exact fun _ _ _ h => h) (Or.inl ⟨by rfl, ?_⟩) (by assumption) ?_
          rotate_left
          · (intro w hSw; (try dsimp only at hSw); go_simp; (try with_reducible rfl))
          (try simp only [Act.put, List.setIfInBounds_toArray, List.set_cons_zero, List.set_cons_succ])
          refine wpAnyH_take (i := 13) (v := ?_) (by simp only [List.getElem?_toArray, List.getElem?_cons_succ, List.getElem?_cons_zero]; rfl) (by kernel_rfl) (by kernel_rfl) (by kernel_rfl) (by exact fun _ _ _ h => h) (Or.inl ⟨by rfl, ?_⟩) (by assumption) ?_
          rotate_left
          · (intro w hSw; (try dsimp only at hSw); go_simp; (try with_reducible rfl))
          (try simp only [Act.put, List.setIfInBounds_toArray, List.set_cons_zero, List.set_cons_succ])
          refine wpAnyH_take (i := 14) (v := ?_) (by simp only [List.getElem?_toArray, List.getElem?_cons_succ, List.getElem?_cons_zero]; rfl) (by kernel_rfl) (by kernel_rfl) (by kernel_rfl) (by exact fun _ _ _ h => h) (Or.inl ⟨by rfl, ?_⟩) (by assumption) ?_
          rotate_left
          · (intro w hSw; (try dsimp only at hSw); go_simp; (try with_reducible rfl))
          (try simp only [Act.put, List.setIfInBounds_toArray, List.set_cons_zero, List.set_cons_succ])
          refine wpAnyH_take (i := 15) (v := ?_) (by simp only [List.getElem?_toArray, List.getElem?_cons_succ, List.getElem?_cons_zero]; rfl) (by kernel_rfl) (by kernel_rfl) (by kernel_rfl) (by exact fun _ _ _ h => h) (Or.inl ⟨by rfl, ?_⟩) (by assumption) ?_
          rotate_left
          · (intro w hSw; (try dsimp only at hSw); go_simp; (try with_reducible rfl))
          (try simp only [Act.put, List.setIfInBounds_toArray, List.set_cons_zero, List.set_cons_succ])
          refine wpAnyH_take (i := 16) (v := ?_) (by simp only [List.getElem?_toArray, List.getElem?_cons_succ, List.getElem?_cons_zero]; rfl) (by kernel_rfl) (by kernel_rfl) (by kernel_rfl) (by exact fun _ _ _ h => h) (Or.inl ⟨by rfl, ?_⟩) (by assumption) ?_
          rotate_left
          · (intro w hSw; (try dsimp only at hSw); go_simp; (try with_reducible rfl))
          (try simp only [Act.put, List.setIfInBounds_toArray, List.set_cons_zero, List.set_cons_succ])
          refine wpAnyH_take (i := 17) (v := ?_) (by simp only [List.getElem?_toArray, List.getElem?_cons_succ, List.getElem?_cons_zero]; rfl) (by kernel_rfl) (by kernel_rfl) (by kernel_rfl) (by exact fun _ _ _ h => h) (Or.inl ⟨by rfl, ?_⟩) (by assumption) ?_
          rotate_left
          · (intro w hSw; (try dsimp only at hSw); go_simp; (try with_reducible rfl))
          (try simp only [Act.put, List.setIfInBounds_toArray, List.set_cons_zero, List.set_cons_succ])
          refine wpAnyH_ready (rs := [18]) (by kernel_rfl) (by simp) ?_
          refine AllReadyH.cons (by simp only [List.getElem?_toArray, List.getElem?_cons_succ, List.getElem?_cons_zero]; rfl) (fun K hK => ?_) AllReadyH.nil
          go_simp
          refine (qadd_at _ _ (t l).cov (t m).cov L _ r3L r3M hL (by omega) ht1).mono ?_
          rintro e w21 ⟨x18, rfl, h18, b21⟩
          go_wp2_with fail
          replace NNL := NNL.below b21
          replace NNM := NNM.below b21
          replace r3 := r3.below b21
          replace r3L := r3L.below b21
          replace r3M := r3M.below b21
          replace ht1 := ht1.below b21
          replace VN := VN.below b21
          replace BB := BB.trans (b21.mono BB.size)
          clear b21
          refine hK.out _ _ ?_ (fun hH1 => ?_)
          · exact ⟨VN.c0, VN.c5, VN.c6, VN.c11, VN.c12, VN.c13, NNL.c11, NNL.c12, NNL.c13, NNM.c11, NNM.c12, NNM.c13⟩
          clear hK K hHeld
          (try simp only [Act.put, List.setIfInBounds_toArray, List.set_cons_zero, List.set_cons_succ])
          refine wpAnyH_ready (rs := [19]) (by kernel_rfl) (by simp) ?_
          refine AllReadyH.cons (by simp only [List.getElem?_toArray, List.getElem?_cons_succ, List.getElem?_cons_zero]; rfl) (fun K hK => ?_) AllReadyH.nil
          go_simp
          refine (qsame_at _ _ (t i).cov ((t l).cov + (t m).cov) (L + L + 1) _ (r3.le (by omega)) (h18.at (L + L + 1) sS) (by omega) (by omega)).mono ?_
          rintro e w22 ⟨rfl, b22⟩
          rw [decide_eq_false hq]
          go_wp2_with fail
          replace NNL := NNL.below b22
          replace NNM := NNM.below b22
          replace r3 := r3.below b22
          replace r3L := r3L.below b22
          replace r3M := r3M.below b22
          replace ht1 := ht1.below b22
          replace VN := VN.below b22
          replace h18 := h18.below b22
          replace BB := BB.trans (b22.mono BB.size)
          clear b22
          refine hK.out _ _ ?_ (fun hH2 => ?_)
          · exact ⟨VN.c0, VN.c5, VN.c6, VN.c11, VN.c12, VN.c13, NNL.c11, NNL.c12, NNL.c13, NNM.c11, NNM.c12, NNM.c13⟩
          clear hK K hH1
          (try simp only [Act.put, List.setIfInBounds_toArray, List.set_cons_zero, List.set_cons_succ])
          refine wpAnyH_take (i := 20) (v := ?_) (by simp only [List.getElem?_toArray, List.getElem?_cons_succ, List.getElem?_cons_zero]; rfl) (by kernel_rfl) (by kernel_rfl) (by kernel_rfl) (by exact fun _ _ _ h => h) (Or.inl ⟨by rfl, ?_⟩) (by assumption) ?_
          rotate_left
          · (intro w hSw; (try dsimp only at hSw); go_simp; (try with_reducible rfl))
          (try simp only [Act.put, List.setIfInBounds_toArray, List.set_cons_zero, List.set_cons_succ])
          refine wpAnyH_take (i := 21) (v := ?_) (by simp only [List.getElem?_toArray, List.getElem?_cons_succ, List.getElem?_cons_zero]; rfl) (by kernel_rfl) (by kernel_rfl) (by kernel_rfl) (by exact fun _ _ _ h => h) (Or.inl ⟨by rfl, ?_⟩) (by assumption) ?_
          rotate_left
          · (intro w hSw; (try dsimp only at hSw); go_simp; (try with_reducible rfl))
          (try simp only [Act.put, List.setIfInBounds_toArray, List.set_cons_zero, List.set_cons_succ])
          refine wpAnyH_done (by kernel_rfl) ?_ _
          clear hH2
          have hbad : bad4 t i = true := by rw [HP.out, decide_eq_false hq]; rfl
          clear HP
          have HR : Hid (rpV 13 (fb (bad4 t) n) = .tuple #[.int .i64 (i : Int), .int .i64 13]) := rpV_some hlt HB.out hbad
          clear HB
          go_wp2
          go_ret2
          exact ⟨congrArg Ending.returned HR.out.symm, BB⟩
      · have hbad : bad4 t i = false := bad4_leaf HLF.out
        clear HLF HLL HRR HNI hv1
        obtain ⟨N_0, N_1, N_2, N_3, N_4, N_5, N_6, N_7, N_8, N_9, N_10, N_11, N_12, N_13⟩ := id NN
        obtain ⟨W1, hW1, hS1, hL1, VN, FN⟩ := V14.lay wr 41 (.bool true) (.int .i64 ft) (.bool p1) (.slice a1 n1 c1) (.slice b1 m1 d1) (.int .i64 ll) (.int .i64 rr) (.bool ms) (.bool p2) (.slice a2 n2 c2) (.slice b2 m2 d2) (.bool p3) (.slice a3 n3 c3) (.slice b3 m3 d3)
        replace BB := BB.trans (hL1.mono BB.size)
        clear hL1
        obtain ⟨V_0, V_1, V_2, V_3, V_4, V_5, V_6, V_7, V_8, V_9, V_10, V_11, V_12, V_13⟩ := id VN
        rw [hW1] at V_0 V_1 V_2 V_3 V_4 V_5 V_6 V_7 V_8 V_9 V_10 V_11 V_12 V_13
        go_wp2
        clear V_0 V_1 V_2 V_3 V_4 V_5 V_6 V_7 V_8 V_9 V_10 V_11 V_12 V_13
        clear N_0 N_1 N_2 N_3 N_4 N_5 N_6 N_7 N_8 N_9 N_10 N_11 N_12 N_13
        rw [← hW1]
        generalize wr.heap.size = R1 at *
        clear hW1 hS1
        have hDr : Below W1.heap.size W1 W1.drew := (Below.refl _ _).drew
        replace VN := VN.below hDr
        replace BB := BB.trans (hDr.mono BB.size)
        clear hDr
        refine wp_region_held_drew (S := (fun w' => w'.cell? ⟨R1, 0, none⟩ = some (.bool true))) (by kernel_rfl) ?_ (fun hHeld => ?_)
        · exact VN.c0
        generalize W1.drew = W2 at *
        refine wpAnyH_take (i := 0) (v := ?_) (by simp only [List.getElem?_toArray, List.getElem?_cons_succ, List.getElem?_cons_zero]; rfl) (by kernel_rfl) (by kernel_rfl) (by kernel_rfl) (by exact fun _ _ _ h => h) (Or.inl ⟨by rfl, ?_⟩) (by assumption) ?_
        rotate_left
        · (intro w hSw; (try dsimp only at hSw); go_simp; (try with_reducible rfl))
        (try simp only [Act.put, List.setIfInBounds_toArray, List.set_cons_zero, List.set_cons_succ])
        refine wpAnyH_take (i := 1) (v := ?_) (by simp only [List.getElem?_toArray, List.getElem?_cons_succ, List.getElem?_cons_zero]; rfl) (by kernel_rfl) (by kernel_rfl) (by kernel_rfl) (by exact fun _ _ _ h => h) (Or.inl ⟨by rfl, ?_⟩) (by assumption) ?_
        rotate_left
        · (intro w hSw; (try dsimp only at hSw); go_simp; (try with_reducible rfl))
        (try simp only [Act.put, List.setIfInBounds_toArray, List.set_cons_zero, List.set_cons_succ])
        refine wpAnyH_take (i := 2) (v := ?_) (by simp only [List.getElem?_toArray, List.getElem?_cons_succ, List.getElem?_cons_zero]; rfl) (by kernel_rfl) (by kernel_rfl) (by kernel_rfl) (by exact fun _ _ _ h => h) (Or.inl ⟨by rfl, ?_⟩) (by assumption) ?_
        rotate_left
        · (intro w hSw; (try dsimp only at hSw); go_simp; (try with_reducible rfl))
        (try simp only [Act.put, List.setIfInBounds_toArray, List.set_cons_zero, List.set_cons_succ])
        refine wpAnyH_take (i := 3) (v := ?_) (by simp only [List.getElem?_toArray, List.getElem?_cons_succ, List.getElem?_cons_zero]; rfl) (by kernel_rfl) (by kernel_rfl) (by kernel_rfl) (by exact fun _ _ _ h => h) (Or.inl ⟨by rfl, ?_⟩) (by assumption) ?_
        rotate_left
        · (intro w hSw; (try dsimp only at hSw); go_simp; (try with_reducible rfl))
        (try simp only [Act.put, List.setIfInBounds_toArray, List.set_cons_zero, List.set_cons_succ])
        refine wpAnyH_take (i := 4) (v := undef) (by simp only [List.getElem?_toArray, List.getElem?_cons_succ, List.getElem?_cons_zero]; rfl) (by kernel_rfl) (by kernel_rfl) (by kernel_rfl) (by exact fun _ _ _ h => h) (Or.inr ⟨by rfl, rfl⟩) (by assumption) ?_
        (try simp only [Act.put, List.setIfInBounds_toArray, List.set_cons_zero, List.set_cons_succ])
        refine wpAnyH_take (i := 5) (v := undef) (by simp only [List.getElem?_toArray, List.getElem?_cons_succ, List.getElem?_cons_zero]; rfl) (by kernel_rfl) (by kernel_rfl) (by kernel_rfl) (by exact fun _ _ _ h => h) (Or.inr ⟨by rfl, rfl⟩) (by assumption) ?_
        (try simp only [Act.put, List.setIfInBounds_toArray, List.set_cons_zero, List.set_cons_succ])
        refine wpAnyH_take (i := 6) (v := undef) (by simp only [List.getElem?_toArray, List.getElem?_cons_succ, List.getElem?_cons_zero]; rfl) (by kernel_rfl) (by kernel_rfl) (by kernel_rfl) (by exact fun _ _ _ h => h) (Or.inr ⟨by rfl, rfl⟩) (by assumption) ?_
        (try simp only [Act.put, List.setIfInBounds_toArray, List.set_cons_zero, List.set_cons_succ])
        refine wpAnyH_take (i := 7) (v := undef) (by simp only [List.getElem?_toArray, List.getElem?_cons_succ, List.getElem?_cons_zero]; rfl) (by kernel_rfl) (by kernel_rfl) (by kernel_rfl) (by exact fun _ _ _ h => h) (Or.inr ⟨by rfl, rfl⟩) (by assumption) ?_
        (try simp only [Act.put, List.setIfInBounds_toArray, List.set_cons_zero, List.set_cons_succ])
        refine wpAnyH_take (i := 8) (v := undef) (by simp only [List.getElem?_toArray, List.getElem?_cons_succ, List.getElem?_cons_zero]; rfl) (by kernel_rfl) (by kernel_rfl) (by kernel_rfl) (by exact fun _ _ _ h => h) (Or.inr ⟨by rfl, rfl⟩) (by assumption) ?_
        (try simp only [Act.put, List.setIfInBounds_toArray, List.set_cons_zero, List.set_cons_succ])
        refine wpAnyH_take (i := 9) (v := undef) (by simp only [List.getElem?_toArray, List.getElem?_cons_succ, List.getElem?_cons_zero]; rfl) (by kernel_rfl) (by kernel_rfl) (by kernel_rfl) (by exact fun _ _ _ h => h) (Or.inr ⟨by rfl, rfl⟩) (by assumption) ?_
        (try simp only [Act.put, List.setIfInBounds_toArray, List.set_cons_zero, List.set_cons_succ])
        refine wpAnyH_take (i := 10) (v := undef) (by simp only [List.getElem?_toArray, List.getElem?_cons_succ, List.getElem?_cons_zero]; rfl) (by kernel_rfl) (by kernel_rfl) (by kernel_rfl) (by exact fun _ _ _ h => h) (Or.inr ⟨by rfl, rfl⟩) (by assumption) ?_
        (try simp only [Act.put, List.setIfInBounds_toArray, List.set_cons_zero, List.set_cons_succ])
        refine wpAnyH_take (i := 11) (v := undef) (by simp only [List.getElem?_toArray, List.getElem?_cons_succ, List.getElem?_cons_zero]; rfl) (by kernel_rfl) (by kernel_rfl) (by kernel_rfl) (by exact fun _ _ _ h => h) (Or.inr ⟨by rfl, rfl⟩) (by assumption) ?_
        (try simp only [Act.put, List.setIfInBounds_toArray, List.set_cons_zero, List.set_cons_succ])
        refine wpAnyH_take (i := 12) (v := undef) (by simp only [List.getElem?_toArray, List.getElem?_cons_succ, List.getElem?_cons_zero]; rfl) (by kernel_rfl) (by kernel_rfl) (by kernel_rfl) (by exact fun _ _ _ h => h) (Or.inr ⟨by rfl, rfl⟩) (by assumption) ?_
        (try simp only [Act.put, List.setIfInBounds_toArray, List.set_cons_zero, List.set_cons_succ])
        refine wpAnyH_take (i := 13) (v := undef) (by simp only [List.getElem?_toArray, List.getElem?_cons_succ, List.getElem?_cons_zero]; rfl) (by kernel_rfl) (by kernel_rfl) (by kernel_rfl) (by exact fun _ _ _ h => h) (Or.inr ⟨by rfl, rfl⟩) (by assumption) ?_
        (try simp only [Act.put, List.setIfInBounds_toArray, List.set_cons_zero, List.set_cons_succ])
        refine wpAnyH_take (i := 14) (v := undef) (by simp only [List.getElem?_toArray, List.getElem?_cons_succ, List.getElem?_cons_zero]; rfl) (by kernel_rfl) (by kernel_rfl) (by kernel_rfl) (by exact fun _ _ _ h => h) (Or.inr ⟨by rfl, rfl⟩) (by assumption) ?_
        (try simp only [Act.put, List.setIfInBounds_toArray, List.set_cons_zero, List.set_cons_succ])
        refine wpAnyH_take (i := 15) (v := undef) (by simp only [List.getElem?_toArray, List.getElem?_cons_succ, List.getElem?_cons_zero]; rfl) (by kernel_rfl) (by kernel_rfl) (by kernel_rfl) (by exact fun _ _ _ h => h) (Or.inr ⟨by rfl, rfl⟩) (by assumption) ?_
        (try simp only [Act.put, List.setIfInBounds_toArray, List.set_cons_zero, List.set_cons_succ])
        refine wpAnyH_take (i := 16) (v := undef) (by simp only [List.getElem?_toArray, List.getElem?_cons_succ, List.getElem?_cons_zero]; rfl) (by kernel_rfl) (by kernel_rfl) (by kernel_rfl) (by exact fun _ _ _ h => h) (Or.inr ⟨by rfl, rfl⟩) (by assumption) ?_
        (try simp only [Act.put, List.setIfInBounds_toArray, List.set_cons_zero, List.set_cons_succ])
        refine wpAnyH_take (i := 17) (v := undef) (by simp only [List.getElem?_toArray, List.getElem?_cons_succ, List.getElem?_cons_zero]; rfl) (by kernel_rfl) (by kernel_rfl) (by kernel_rfl) (by exact fun _ _ _ h => h) (Or.inr ⟨by rfl, rfl⟩) (by assumption) ?_
        (try simp only [Act.put, List.setIfInBounds_toArray, List.set_cons_zero, List.set_cons_succ])
        refine wpAnyH_take (i := 18) (v := undef) (by simp only [List.getElem?_toArray, List.getElem?_cons_succ, List.getElem?_cons_zero]; rfl) (by kernel_rfl) (by kernel_rfl) (by kernel_rfl) (by exact fun _ _ _ h => h) (Or.inr ⟨by rfl, rfl⟩) (by assumption) ?_
        (try simp only [Act.put, List.setIfInBounds_toArray, List.set_cons_zero, List.set_cons_succ])
        refine wpAnyH_take (i := 19) (v := undef) (by simp only [List.getElem?_toArray, List.getElem?_cons_succ, List.getElem?_cons_zero]; rfl) (by kernel_rfl) (by kernel_rfl) (by kernel_rfl) (by exact fun _ _ _ h => h) (Or.inr ⟨by rfl, rfl⟩) (by assumption) ?_
        (try simp only [Act.put, List.setIfInBounds_toArray, List.set_cons_zero, List.set_cons_succ])
        refine wpAnyH_take (i := 20) (v := undef) (by simp only [List.getElem?_toArray, List.getElem?_cons_succ, List.getElem?_cons_zero]; rfl) (by kernel_rfl) (by kernel_rfl) (by kernel_rfl) (by exact fun _ _ _ h => h) (Or.inr ⟨by rfl, rfl⟩) (by assumption) ?_
        (try simp only [Act.put, List.setIfInBounds_toArray, List.set_cons_zero, List.set_cons_succ])
        refine wpAnyH_take (i := 21) (v := ?_) (by simp only [List.getElem?_toArray, List.getElem?_cons_succ, List.getElem?_cons_zero]; rfl) (by kernel_rfl) (by kernel_rfl) (by kernel_rfl) (by exact fun _ _ _ h => h) (Or.inl ⟨by rfl, ?_⟩) (by assumption) ?_
        rotate_left
        · (intro w hSw; (try dsimp only at hSw); go_simp; (try with_reducible rfl))
        (try simp only [Act.put, List.setIfInBounds_toArray, List.set_cons_zero, List.set_cons_succ])
        refine wpAnyH_done (by kernel_rfl) ?_ _
        clear hHeld
        have HB2 : Hid (∀ j, j < i + 1 → (bad4 t) j = false) := fun j hj => by
          by_cases e : j = i
          · subst e; exact hbad
          · exact HB.out j (by omega)
        clear HB
        go_wp2
        go_roundw
        case rel => exact ⟨i + 1, by omega, by go_num, HB2, BB⟩
        case measure => simp [intOf]; omega
    · obtain rfl : i = n := by omega
      have g1 : ¬ (i : Int) < (i : Int) := by omega
      have HR : Hid (rpV 13 (fb (bad4 t) i) = .tuple #[.int .i64 (-1), .int .i64 0]) := rpV_none HB.out
      go_wp2
      go_ret2
      exact ⟨congrArg Ending.returned HR.out.symm, BB⟩

def ol (r : Nat) : Nat := if r = 1 then 2 else 1
def ov : Nat → Nat → Nat
  | 0, _ => 0
  | 1, j => 1 + j
  | 2, _ => 3
  | _, _ => 4
def ev : Nat → Int
  | 0 => 8
  | 1 => 11
  | 2 => 12
  | _ => 13
def bw (F : Int) (t : Nat → Nd) (n : Nat) : Nat → Nat → Nat → Bool
  | 0, _ => bad0 F t n
  | 1, 0 => bad1 t n
  | 1, _ => bad2 t n
  | 2, _ => bad3 t
  | _, _ => bad4 t
theorem lrule_any (r j : Nat) (hr : r < 4) (hj : j < ol r) (v : Value) (n : Nat) (t : Nat → Nd) (F : Int) (L : Nat) (w : World) (hv : TRow w v n t L) (ht : Tab w) (hn : n ≤ 255) (hN : 0 < r → Named t n) (hL : 1 ≤ L) (hLM : L ≤ 30000) :
    Calls Tryd.prog 20 #[v, .int .i64 F, .int .i64 (ov r j : Int)] w fun e w' => e = .returned (rpV (ev r) (fb (bw F t n r j) n)) ∧ Below w.heap.size w w' := by
  unfold ol at hj
  rcases (by omega : r = 0 ∨ r = 1 ∨ r = 2 ∨ r = 3) with rfl | rfl | rfl | rfl
  · exact lrule0_at v n t F L w hv hn
  · rw [if_pos rfl] at hj
    rcases (by omega : j = 0 ∨ j = 1) with rfl | rfl
    · exact lrule1_at v n t F L w hv hn
    · exact lrule2_at v n t F L w hv hn
  · exact lrule3_at v n t F L w hv hn hL (by omega)
  · exact lrule4_at v n t F L w hv hn ht (hN (by omega)) hL hLM
theorem rl_of_none {F : Int} {t : Nat → Nd} {n r : Nat} (hr : r < 4) (h : ∀ j, j < ol r → fb (bw F t n r j) n = none) : rl F t n r = none := by
  rcases (by omega : r = 0 ∨ r = 1 ∨ r = 2 ∨ r = 3) with rfl | rfl | rfl | rfl
  · have := h 0 (by decide); show Option.map _ (fb (bad0 F t n) n) = none; rw [show fb (bad0 F t n) n = none from this]; rfl
  · have h0 := h 0 (by decide)
    have h1 := h 1 (by decide)
    show Option.map _ ((fb (bad1 t n) n).or (fb (bad2 t n) n)) = none
    rw [show fb (bad1 t n) n = none from h0, show fb (bad2 t n) n = none from h1]; rfl
  · have := h 0 (by decide); show Option.map _ (fb (bad3 t) n) = none; rw [show fb (bad3 t) n = none from this]; rfl
  · have := h 0 (by decide); show Option.map _ (fb (bad4 t) n) = none; rw [show fb (bad4 t) n = none from this]; rfl
theorem rl_of_some {F : Int} {t : Nat → Nd} {n r j i : Nat} (hr : r < 4) (hj : j < ol r) (h0 : ∀ j', j' < j → fb (bw F t n r j') n = none) (h : fb (bw F t n r j) n = some i) : rl F t n r = some (ev r, i) := by
  unfold ol at hj
  rcases (by omega : r = 0 ∨ r = 1 ∨ r = 2 ∨ r = 3) with rfl | rfl | rfl | rfl
  · show Option.map _ (fb (bad0 F t n) n) = _; rw [show fb (bad0 F t n) n = some i from h]; rfl
  · rw [if_pos rfl] at hj
    rcases (by omega : j = 0 ∨ j = 1) with rfl | rfl
    · show Option.map _ ((fb (bad1 t n) n).or (fb (bad2 t n) n)) = _
      rw [show fb (bad1 t n) n = some i from h]; rfl
    · show Option.map _ ((fb (bad1 t n) n).or (fb (bad2 t n) n)) = _
      rw [show fb (bad1 t n) n = none from h0 0 (by omega), show fb (bad2 t n) n = some i from h]; rfl
  · show Option.map _ (fb (bad3 t) n) = _; rw [show fb (bad3 t) n = some i from h]; rfl
  · show Option.map _ (fb (bad4 t) n) = _; rw [show fb (bad4 t) n = some i from h]; rfl
theorem order_lay (w : World) : ∃ W, W = ((((w.alloc (.cells #[.int .i64 0] 3)).alloc (.cells #[.int .i64 1, .int .i64 2] 3)).alloc (.cells #[.int .i64 3] 3)).alloc (.cells #[.int .i64 4] 3)).alloc (.cells #[.slice (some ⟨w.heap.size, 0, none⟩) 1 1, .slice (some ⟨w.heap.size + 1, 0, none⟩) 2 2, .slice (some ⟨w.heap.size + 2, 0, none⟩) 1 1, .slice (some ⟨w.heap.size + 3, 0, none⟩) 1 1] 43) ∧ Below w.heap.size w W ∧
    ∀ r, r < 4 → W.cell? ⟨w.heap.size + 4, r, none⟩ = some (.slice (some ⟨w.heap.size + r, 0, none⟩) (ol r) (ol r)) ∧ ∀ j, j < ol r → W.cell? ⟨w.heap.size + r, j, none⟩ = some (.int .i64 (ov r j : Int)) := by
  refine ⟨_, rfl, ((((Below.refl _ _).alloc (Nat.le_refl _) _).alloc (by simp) _).alloc (by simp; omega) _).alloc (by simp; omega) _ |>.alloc (by simp; omega) _, fun r hr => ⟨?_, fun j hj => ?_⟩⟩
  · rcases (by omega : r = 0 ∨ r = 1 ∨ r = 2 ∨ r = 3) with rfl | rfl | rfl | rfl <;> simp [ol, go_sem]
  · unfold ol at hj
    rcases (by omega : r = 0 ∨ r = 1 ∨ r = 2 ∨ r = 3) with rfl | rfl | rfl | rfl
    · rw [if_neg (by omega)] at hj; obtain rfl : j = 0 := by omega
      simp [ov, go_sem]
    · rw [if_pos rfl] at hj
      rcases (by omega : j = 0 ∨ j = 1) with rfl | rfl <;> simp [ov, go_sem]
    · rw [if_neg (by omega)] at hj; obtain rfl : j = 0 := by omega
      simp [ov, go_sem]
    · rw [if_neg (by omega)] at hj; obtain rfl : j = 0 := by omega
      simp [ov, go_sem]
structure Cel8 (w : World) (b o : Nat) (x : Value) : Prop where
  cell : w.cell? ⟨b, o, none⟩ = some x
theorem Cel8.below {w w' : World} {b o : Nat} {x : Value} (h : Cel8 w b o x) (hb : Below w.heap.size w w') : Cel8 w' b o x := ⟨(hb.cell (World.block_lt_of_cell? w _ h.cell)).trans h.cell⟩
set_option maxRecDepth 100000 in
set_option maxHeartbeats 8000000 in
theorem lcheck_at (F : Int) (v : Value) (k : Nat) (N : Nat → Nat) (T : Nat → Nat → Nd) (L : Nat) (w : World) (hv : MRow w v k N T L) (ht : Tab w) (hL : 1 ≤ L) (hLM : L ≤ 30000) :
    Calls Tryd.prog 7 #[.agg #[.int .i64 F, v]] w fun e w' => ∃ u, e = .returned u ∧ ChkOut F k N T u ∧ Below w.heap.size w w' := by
  obtain ⟨ao, c, rfl, hnc, hc63⟩ := hv.open
  have BB : Below w.heap.size w w := Below.refl _ _
  obtain ⟨Wb0, hW0, hS0, hL0, VM⟩ := V2.lay w 24 (.int .i64 F) (.slice ao k c)
  replace hv := hv.below hL0
  replace ht := ht.below hL0
  replace BB := BB.trans (hL0.mono BB.size)
  clear hL0
  obtain ⟨Wb1, hW1, hS1, hL1, VR⟩ := V4.lay Wb0 30 (.int .i64 0) (.int .i64 0) (.int .i64 0) (.int .i64 0)
  rw [hS0] at VR hS1
  replace hv := hv.below hL1
  replace ht := ht.below hL1
  replace VM := VM.below hL1
  replace BB := BB.trans (hL1.mono BB.size)
  clear hL1
  go_enter Tryd.func7, Tryd.ntmps7
  obtain ⟨VM_0, VM_1, VM_2, VM_3⟩ := id VM
  rw [hW1, hW0] at VM_0 VM_1 VM_2 VM_3
  go_wp2_with fail
  clear VM_0 VM_1 VM_2 VM_3
  rw [← hW0]
  rw [← hW1]
  clear hW0 hW1 hS0 hS1
  refine (fits_at F _ k N T L _ hv).mono ?_
  rintro e w1 ⟨rfl, b1⟩
  replace hv := hv.below b1
  replace ht := ht.below b1
  replace VM := VM.below b1
  replace VR := VR.below b1
  replace BB := BB.trans (b1.mono BB.size)
  clear b1
  cases hmf : mfit F k N T
  · have HM : Hid (mfit F k N T = false) := hmf
    clear hmf
    obtain ⟨⟨q1, q2, q3, q4, q5, q6⟩, q7, q8⟩ := id VR
    go_wp2
    (try simp only [Exit.inBlock, Exit.then])
    refine bodyPost_ret (v := .agg #[.int .i64 1, .int .i64 0, .int .i64 0, .int .i64 0]) (by simp [results, go_sem, q1, q2, q3, q7]) rfl ?_
    exact ⟨_, rfl, .inl ⟨HM.out, rfl⟩, below_store4 BB (by omega) _ _ _ _⟩
  · have HM : Hid (mfit F k N T = true) := hmf
    obtain ⟨hF0, hF1, hk64, hlens⟩ := mfit_is hmf
    have HLN : Hid (∀ i, i < k → 1 ≤ N i ∧ N i ≤ 255) := hlens
    clear hmf hlens hF0 hF1
    obtain ⟨Wo, hWo, bo, hOr⟩ := order_lay w1
    have HOR : Hid (∀ r, r < 4 → Wo.cell? ⟨w1.heap.size + 4, r, none⟩ = some (.slice (some ⟨w1.heap.size + r, 0, none⟩) (ol r) (ol r)) ∧ ∀ j, j < ol r → Wo.cell? ⟨w1.heap.size + r, j, none⟩ = some (.int .i64 (ov r j : Int))) := hOr
    clear hOr
    replace hv := hv.below bo
    replace ht := ht.below bo
    replace VM := VM.below bo
    replace VR := VR.below bo
    replace BB := BB.trans (bo.mono BB.size)
    clear bo
    go_wp2
    rw [← hWo]
    generalize w1.heap.size = G at *
    clear hWo
    have hv0 := hv
    have ht0 := ht
    have VM0 := VM
    have VR0 := VR
    have BB0 : Hid (Below w.heap.size w Wo) := BB
    clear hv ht VM VR BB
    go_loopw [4] (fun vi wr => ∃ r : Nat, r ≤ 4 ∧ vi = .int .i64 (r : Int) ∧ Hid (∀ r', r' < r → ∀ i, i < k → rl F (T i) (N i) r' = none) ∧ Below Wo.heap.size Wo wr) (fun vi _ => 4 - (intOf vi).toNat)
    case atStart => exact ⟨0, by omega, rfl, fun r' h => by omega, Below.refl _ _⟩
    case round =>
      obtain ⟨r, hr, rfl, HB, BL⟩ := hrel
      by_cases hlt : r < 4
      · have g1 : (r : Int) < 4 := by omega
        have g0 : (0 : Int) ≤ (r : Int) := by omega
        go_wp2
        obtain ⟨wo, rfl⟩ : ∃ wo, wo = wr := ⟨_, rfl⟩
        go_loopw [5] (fun vi wr => ∃ i : Nat, i ≤ k ∧ vi = .int .i64 (i : Int) ∧ Hid (∀ i', i' < i → rl F (T i') (N i') r = none) ∧ Below Wo.heap.size Wo wr) (fun vi _ => k - (intOf vi).toNat)
        case atStart => exact ⟨0, by omega, rfl, fun i' h => by omega, BL⟩
        case round =>
          clear BL
          obtain ⟨i, hi, rfl, HI, BL⟩ := hrel
          obtain ⟨VM_0, VM_1, VM_2, VM_3⟩ := VM0.below BL
          by_cases hlt2 : i < k
          · have g2 : (i : Int) < (k : Int) := by omega
            have g3 : (0 : Int) ≤ (i : Int) := by omega
            obtain ⟨hn1, hn2⟩ := HLN.out i hlt2
            have HNM : Hid (0 < r → Named (T i) (N i)) := fun h0 => rl0_named (HB.out 0 h0 i hlt2)
            go_wp2
            clear VM_0 VM_1 VM_2 VM_3
            obtain ⟨wp_, rfl⟩ : ∃ wp_, wp_ = wr := ⟨_, rfl⟩
            have ho12 : 1 ≤ ol r ∧ ol r ≤ 2 := by unfold ol; split <;> omega
            obtain ⟨o, hoo⟩ : ∃ o, o = ol r := ⟨_, rfl⟩
            rw [← hoo] at ho12
            have HOO : Hid (o = ol r) := hoo
            clear hoo
            go_loopw [6] (fun vi wr => ∃ q : Nat, q ≤ o ∧ vi = .int .i64 (q : Int) ∧ Hid (∀ j, j < q → fb (bw F (T i) (N i) r j) (N i) = none) ∧ Below Wo.heap.size Wo wr) (fun vi _ => o - (intOf vi).toNat)
            case atStart => exact ⟨0, by omega, rfl, fun j h => by omega, BL⟩
            case round =>
              clear BL
              obtain ⟨q, hq, rfl, HQ, BL⟩ := hrel
              obtain ⟨XO0, XI0⟩ := HOR.out r hlt
              rw [← HOO.out] at XO0 XI0
              have XO : wr.cell? ⟨G + 4, r, none⟩ = some (.slice (some ⟨G + r, 0, none⟩) o o) := (BL.cell (World.block_lt_of_cell? _ _ XO0)).trans XO0
              clear XO0
              by_cases hlt3 : q < o
              · have g4 : (q : Int) < (o : Int) := by omega
                have g5 : (0 : Int) ≤ (q : Int) := by omega
                have XQ : wr.cell? ⟨G + r, q, none⟩ = some (.int .i64 (ov r q : Int)) := (BL.cell (World.block_lt_of_cell? _ _ (XI0 q hlt3))).trans (XI0 q hlt3)
                clear XI0
                obtain ⟨b, off, cc, a, d, hvv, hcc, XC, TR⟩ := (hv0.below BL).at hlt2
                cases hvv
                have ht := ht0.below BL
                have VM := VM0.below BL
                have VR := VR0.below BL
                have BB := BB0.out.trans (BL.mono BB0.out.size)
                have CO : Cel8 wr (G + 4) r (.slice (some ⟨G + r, 0, none⟩) o o) := ⟨XO⟩
                have CQ : Cel8 wr (G + r) q (.int .i64 (ov r q : Int)) := ⟨XQ⟩
                have CC : Cel8 wr b (off + i) (.slice a (N i) d) := ⟨XC⟩
                obtain ⟨W9, hq9⟩ : ∃ z, ov r q = z := ⟨_, rfl⟩
                rw [hq9] at CQ
                have HQ9 : Hid (ov r q = W9) := hq9
                clear hq9 XQ XC
                obtain ⟨VM_0, VM_1, VM_2, VM_3⟩ := id VM
                go_wp2
                clear XO VM_0 VM_1 VM_2 VM_3
                cases hfb : fb (bw F (T i) (N i) r q) (N i)
                · have HFB : Hid (fb (bw F (T i) (N i) r q) (N i) = none) := hfb
                  clear hfb
                  have BLR := BL
                  clear BL
                  have hDr : Below wr.heap.size wr wr.drew := (Below.refl _ _).drew
                  replace ht := ht.below hDr
                  replace TR := TR.below hDr
                  replace CO := CO.below hDr
                  replace CQ := CQ.below hDr
                  replace CC := CC.below hDr
                  replace VM := VM.below hDr
                  replace VR := VR.below hDr
                  replace BB := BB.trans (hDr.mono BB.size)
                  replace BLR := BLR.trans (hDr.mono BLR.size)
                  clear hDr
                  refine wp_region_held_drew (S := (fun w' => w'.cell? ⟨w.heap.size, 0, none⟩ = some (.int .i64 F) ∧ w'.cell? ⟨w.heap.size, 1, none⟩ = some (.slice (some ⟨b, off, none⟩) k c) ∧ w'.cell? ⟨b, off + i, none⟩ = some (.slice a (N i) d) ∧ w'.cell? ⟨G + 4, r, none⟩ = some (.slice (some ⟨G + r, 0, none⟩) o o) ∧ w'.cell? ⟨G + r, q, none⟩ = some (.int .i64 (W9 : Int)))) (by kernel_rfl) ?_ (fun hHeld => ?_)
                  · exact ⟨VM.1, VM.2.1, CC.cell, CO.cell, CQ.cell⟩
                  generalize wr.drew = W31 at *
                  refine wpAnyH_take (i := 0) (v := ?_) (by simp only [List.getElem?_toArray, List.getElem?_cons_succ, List.getElem?_cons_zero]; rfl) (by kernel_rfl) (by kernel_rfl) (by kernel_rfl) (by exact fun _ _ _ h => h) (Or.inl ⟨by rfl, ?_⟩) (by assumption) ?_
                  rotate_left
                  · (intro w hSw; (try dsimp only at hSw); go_simp; (try with_reducible rfl))
                  (try simp only [Act.put, List.setIfInBounds_toArray, List.set_cons_zero, List.set_cons_succ])
                  refine wpAnyH_take (i := 1) (v := ?_) (by simp only [List.getElem?_toArray, List.getElem?_cons_succ, List.getElem?_cons_zero]; rfl) (by kernel_rfl) (by kernel_rfl) (by kernel_rfl) (by exact fun _ _ _ h => h) (Or.inl ⟨by rfl, ?_⟩) (by assumption) ?_
                  rotate_left
                  · (intro w hSw; (try dsimp only at hSw); go_simp; (try with_reducible rfl))
                  (try simp only [Act.put, List.setIfInBounds_toArray, List.set_cons_zero, List.set_cons_succ])
                  refine wpAnyH_take (i := 2) (v := ?_) (by simp only [List.getElem?_toArray, List.getElem?_cons_succ, List.getElem?_cons_zero]; rfl) (by kernel_rfl) (by kernel_rfl) (by kernel_rfl) (by exact fun _ _ _ h => h) (Or.inl ⟨by rfl, ?_⟩) (by assumption) ?_
                  rotate_left
                  · (intro w hSw; (try dsimp only at hSw); go_simp; (try with_reducible rfl))
                  (try simp only [Act.put, List.setIfInBounds_toArray, List.set_cons_zero, List.set_cons_succ])
                  refine wpAnyH_take (i := 3) (v := ?_) (by simp only [List.getElem?_toArray, List.getElem?_cons_succ, List.getElem?_cons_zero]; rfl) (by kernel_rfl) (by kernel_rfl) (by kernel_rfl) (by exact fun _ _ _ h => h) (Or.inl ⟨by rfl, ?_⟩) (by assumption) ?_
                  rotate_left
                  · (intro w hSw; (try dsimp only at hSw); go_simp; (try with_reducible rfl))
                  (try simp only [Act.put, List.setIfInBounds_toArray, List.set_cons_zero, List.set_cons_succ])
                  refine wpAnyH_take (i := 4) (v := ?_) (by simp only [List.getElem?_toArray, List.getElem?_cons_succ, List.getElem?_cons_zero]; rfl) (by kernel_rfl) (by kernel_rfl) (by kernel_rfl) (by exact fun _ _ _ h => h) (Or.inl ⟨by rfl, ?_⟩) (by assumption) ?_
                  rotate_left
                  · (intro w hSw; (try dsimp only at hSw); go_simp; (try with_reducible rfl))
                  (try simp only [Act.put, List.setIfInBounds_toArray, List.set_cons_zero, List.set_cons_succ])
                  refine wpAnyH_take (i := 5) (v := ?_) (by simp only [List.getElem?_toArray, List.getElem?_cons_succ, List.getElem?_cons_zero]; rfl) (by kernel_rfl) (by kernel_rfl) (by kernel_rfl) (by exact fun _ _ _ h => h) (Or.inl ⟨by rfl, ?_⟩) (by assumption) ?_
                  rotate_left
                  · (intro w hSw; (try dsimp only at hSw); go_simp; (try with_reducible rfl))
                  (try simp only [Act.put, List.setIfInBounds_toArray, List.set_cons_zero, List.set_cons_succ])
                  refine wpAnyH_take (i := 6) (v := ?_) (by simp only [List.getElem?_toArray, List.getElem?_cons_succ, List.getElem?_cons_zero]; rfl) (by kernel_rfl) (by kernel_rfl) (by kernel_rfl) (by exact fun _ _ _ h => h) (Or.inl ⟨by rfl, ?_⟩) (by assumption) ?_
                  rotate_left
                  · (intro w hSw; (try dsimp only at hSw); go_simp; (try with_reducible rfl))
                  (try simp only [Act.put, List.setIfInBounds_toArray, List.set_cons_zero, List.set_cons_succ])
                  refine wpAnyH_take (i := 7) (v := ?_) (by simp only [List.getElem?_toArray, List.getElem?_cons_succ, List.getElem?_cons_zero]; rfl) (by kernel_rfl) (by kernel_rfl) (by kernel_rfl) (by exact fun _ _ _ h => h) (Or.inl ⟨by rfl, ?_⟩) (by assumption) ?_
                  rotate_left
                  · (intro w hSw; (try dsimp only at hSw); go_simp; (try with_reducible rfl))
                  (try simp only [Act.put, List.setIfInBounds_toArray, List.set_cons_zero, List.set_cons_succ])
                  refine wpAnyH_take (i := 8) (v := ?_) (by simp only [List.getElem?_toArray, List.getElem?_cons_succ, List.getElem?_cons_zero]; rfl) (by kernel_rfl) (by kernel_rfl) (by kernel_rfl) (by exact fun _ _ _ h => h) (Or.inl ⟨by rfl, ?_⟩) (by assumption) ?_
                  rotate_left
                  · (intro w hSw; (try dsimp only at hSw); go_simp; (try with_reducible rfl))
                  (try simp only [Act.put, List.setIfInBounds_toArray, List.set_cons_zero, List.set_cons_succ])
                  refine wpAnyH_take (i := 9) (v := ?_) (by simp only [List.getElem?_toArray, List.getElem?_cons_succ, List.getElem?_cons_zero]; rfl) (by kernel_rfl) (by kernel_rfl) (by kernel_rfl) (by exact fun _ _ _ h => h) (Or.inl ⟨by rfl, ?_⟩) (by assumption) ?_
                  rotate_left
                  · (intro w hSw; (try dsimp only at hSw); go_simp; (try with_reducible rfl))
                  (try simp only [Act.put, List.setIfInBounds_toArray, List.set_cons_zero, List.set_cons_succ])
                  refine wpAnyH_take (i := 10) (v := ?_) (by simp only [List.getElem?_toArray, List.getElem?_cons_succ, List.getElem?_cons_zero]; rfl) (by kernel_rfl) (by kernel_rfl) (by kernel_rfl) (by exact fun _ _ _ h => h) (Or.inl ⟨by rfl, ?_⟩) (by assumption) ?_
                  rotate_left
                  · (intro w hSw; (try dsimp only at hSw); go_simp; (try with_reducible rfl))
                  (try simp only [Act.put, List.setIfInBounds_toArray, List.set_cons_zero, List.set_cons_succ])
                  refine wpAnyH_take (i := 11) (v := ?_) (by simp only [List.getElem?_toArray, List.getElem?_cons_succ, List.getElem?_cons_zero]; rfl) (by kernel_rfl) (by kernel_rfl) (by kernel_rfl) (by exact fun _ _ _ h => h) (Or.inl ⟨by rfl, ?_⟩) (by assumption) ?_
                  rotate_left
                  · (intro w hSw; (try dsimp only at hSw); go_simp; (try with_reducible rfl))
                  (try simp only [Act.put, List.setIfInBounds_toArray, List.set_cons_zero, List.set_cons_succ])
                  refine wpAnyH_take (i := 12) (v := ?_) (by simp only [List.getElem?_toArray, List.getElem?_cons_succ, List.getElem?_cons_zero]; rfl) (by kernel_rfl) (by kernel_rfl) (by kernel_rfl) (by exact fun _ _ _ h => h) (Or.inl ⟨by rfl, ?_⟩) (by assumption) ?_
                  rotate_left
                  · (intro w hSw; (try dsimp only at hSw); go_simp; (try with_reducible rfl))
                  (try simp only [Act.put, List.setIfInBounds_toArray, List.set_cons_zero, List.set_cons_succ])
                  refine wpAnyH_take (i := 13) (v := ?_) (by simp only [List.getElem?_toArray, List.getElem?_cons_succ, List.getElem?_cons_zero]; rfl) (by kernel_rfl) (by kernel_rfl) (by kernel_rfl) (by exact fun _ _ _ h => h) (Or.inl ⟨by rfl, ?_⟩) (by assumption) ?_
                  rotate_left
                  · (intro w hSw; (try dsimp only at hSw); go_simp; (try with_reducible rfl))
                  (try simp only [Act.put, List.setIfInBounds_toArray, List.set_cons_zero, List.set_cons_succ])
                  refine wpAnyH_ready (rs := [14]) (by kernel_rfl) (by simp) ?_
                  refine AllReadyH.cons (by simp only [List.getElem?_toArray, List.getElem?_cons_succ, List.getElem?_cons_zero]; rfl) (fun K hK => ?_) AllReadyH.nil
                  go_simp
                  refine (HQ9.out ▸ lrule_any r q hlt (by rw [← HOO.out]; exact hlt3) _ (N i) (T i) F L _ TR ht hn2 HNM.out hL hLM).mono ?_
                  rintro e w31 ⟨rfl, b31⟩
                  rw [HFB.out, show rpV (ev r) none = .tuple #[.int .i64 (-1), .int .i64 0] from rfl]
                  go_wp2_with fail
                  replace ht := ht.below b31
                  replace TR := TR.below b31
                  replace CO := CO.below b31
                  replace CQ := CQ.below b31
                  replace CC := CC.below b31
                  replace VM := VM.below b31
                  replace VR := VR.below b31
                  replace BB := BB.trans (b31.mono BB.size)
                  replace BLR := BLR.trans (b31.mono BLR.size)
                  clear b31
                  refine hK.out _ _ ?_ (fun hH1 => ?_)
                  · exact ⟨VM.1, VM.2.1, CC.cell, CO.cell, CQ.cell⟩
                  clear hK K hHeld
                  (try simp only [Act.put, List.setIfInBounds_toArray, List.set_cons_zero, List.set_cons_succ])
                  refine wpAnyH_take (i := 15) (v := ?_) (by simp only [List.getElem?_toArray, List.getElem?_cons_succ, List.getElem?_cons_zero]; rfl) (by kernel_rfl) (by kernel_rfl) (by kernel_rfl) (by exact fun _ _ _ h => h) (Or.inl ⟨by rfl, ?_⟩) (by assumption) ?_
                  rotate_left
                  · (intro w hSw; (try dsimp only at hSw); go_simp; (try with_reducible rfl))
                  (try simp only [Act.put, List.setIfInBounds_toArray, List.set_cons_zero, List.set_cons_succ])
                  refine wpAnyH_take (i := 16) (v := ?_) (by simp only [List.getElem?_toArray, List.getElem?_cons_succ, List.getElem?_cons_zero]; rfl) (by kernel_rfl) (by kernel_rfl) (by kernel_rfl) (by exact fun _ _ _ h => h) (Or.inl ⟨by rfl, ?_⟩) (by assumption) ?_
                  rotate_left
                  · (intro w hSw; (try dsimp only at hSw); go_simp; (try with_reducible rfl))
                  (try simp only [Act.put, List.setIfInBounds_toArray, List.set_cons_zero, List.set_cons_succ])
                  refine wpAnyH_take (i := 17) (v := ?_) (by simp only [List.getElem?_toArray, List.getElem?_cons_succ, List.getElem?_cons_zero]; rfl) (by kernel_rfl) (by kernel_rfl) (by kernel_rfl) (by exact fun _ _ _ h => h) (Or.inl ⟨by rfl, ?_⟩) (by assumption) ?_
                  rotate_left
                  · (intro w hSw; (try dsimp only at hSw); go_simp; (try with_reducible rfl))
                  (try simp only [Act.put, List.setIfInBounds_toArray, List.set_cons_zero, List.set_cons_succ])
                  refine wpAnyH_take (i := 18) (v := ?_) (by simp only [List.getElem?_toArray, List.getElem?_cons_succ, List.getElem?_cons_zero]; rfl) (by kernel_rfl) (by kernel_rfl) (by kernel_rfl) (by exact fun _ _ _ h => h) (Or.inl ⟨by rfl, ?_⟩) (by assumption) ?_
                  rotate_left
                  · (intro w hSw; (try dsimp only at hSw); go_simp; (try with_reducible rfl))
                  (try simp only [Act.put, List.setIfInBounds_toArray, List.set_cons_zero, List.set_cons_succ])
                  refine wpAnyH_take (i := 19) (v := ?_) (by simp only [List.getElem?_toArray, List.getElem?_cons_succ, List.getElem?_cons_zero]; rfl) (by kernel_rfl) (by kernel_rfl) (by kernel_rfl) (by exact fun _ _ _ h => h) (Or.inl ⟨by rfl, ?_⟩) (by assumption) ?_
                  rotate_left
                  · (intro w hSw; (try dsimp only at hSw); go_simp; (try with_reducible rfl))
                  (try simp only [Act.put, List.setIfInBounds_toArray, List.set_cons_zero, List.set_cons_succ])
                  refine wpAnyH_done (by kernel_rfl) ?_ _
                  clear hH1
                  have HQ2 : Hid (∀ j, j < q + 1 → fb (bw F (T i) (N i) r j) (N i) = none) := fun j hj => by
                    by_cases e : j = q
                    · subst e; exact HFB.out
                    · exact HQ.out j (by omega)
                  clear HQ HFB
                  go_wp2
                  go_roundw
                  case rel => exact ⟨q + 1, by omega, by go_num, HQ2, BLR⟩
                  case measure => simp [intOf]; omega
                · rename_i nd
                  have HX : Hid (IsFirst F k N T (some (ev r, i, nd))) := .inr ⟨r, i, ev r, nd, hlt, hlt2, rfl, rl_of_some hlt (by rw [← HOO.out]; exact hlt3) HQ.out hfb, HB.out, HI.out⟩
                  have HFB : Hid (fb (bw F (T i) (N i) r q) (N i) = some nd) := hfb
                  clear hfb
                  have her : ¬ ev r = 0 := by rcases (by omega : r = 0 ∨ r = 1 ∨ r = 2 ∨ r = 3) with rfl | rfl | rfl | rfl <;> decide
                  have BLR := BL
                  clear BL
                  have hDr : Below wr.heap.size wr wr.drew := (Below.refl _ _).drew
                  replace ht := ht.below hDr
                  replace TR := TR.below hDr
                  replace CO := CO.below hDr
                  replace CQ := CQ.below hDr
                  replace CC := CC.below hDr
                  replace VM := VM.below hDr
                  replace VR := VR.below hDr
                  replace BB := BB.trans (hDr.mono BB.size)
                  replace BLR := BLR.trans (hDr.mono BLR.size)
                  clear hDr
                  refine wp_region_held_drew (S := (fun w' => w'.cell? ⟨w.heap.size, 0, none⟩ = some (.int .i64 F) ∧ w'.cell? ⟨w.heap.size, 1, none⟩ = some (.slice (some ⟨b, off, none⟩) k c) ∧ w'.cell? ⟨b, off + i, none⟩ = some (.slice a (N i) d) ∧ w'.cell? ⟨G + 4, r, none⟩ = some (.slice (some ⟨G + r, 0, none⟩) o o) ∧ w'.cell? ⟨G + r, q, none⟩ = some (.int .i64 (W9 : Int)))) (by kernel_rfl) ?_ (fun hHeld => ?_)
                  · exact ⟨VM.1, VM.2.1, CC.cell, CO.cell, CQ.cell⟩
                  generalize wr.drew = W31 at *
                  refine wpAnyH_take (i := 0) (v := ?_) (by simp only [List.getElem?_toArray, List.getElem?_cons_succ, List.getElem?_cons_zero]; rfl) (by kernel_rfl) (by kernel_rfl) (by kernel_rfl) (by exact fun _ _ _ h => h) (Or.inl ⟨by rfl, ?_⟩) (by assumption) ?_
                  rotate_left
                  · (intro w hSw; (try dsimp only at hSw); go_simp; (try with_reducible rfl))
                  (try simp only [Act.put, List.setIfInBounds_toArray, List.set_cons_zero, List.set_cons_succ])
                  refine wpAnyH_take (i := 1) (v := ?_) (by simp only [List.getElem?_toArray, List.getElem?_cons_succ, List.getElem?_cons_zero]; rfl) (by kernel_rfl) (by kernel_rfl) (by kernel_rfl) (by exact fun _ _ _ h => h) (Or.inl ⟨by rfl, ?_⟩) (by assumption) ?_
                  rotate_left
                  · (intro w hSw; (try dsimp only at hSw); go_simp; (try with_reducible rfl))
                  (try simp only [Act.put, List.setIfInBounds_toArray, List.set_cons_zero, List.set_cons_succ])
                  refine wpAnyH_take (i := 2) (v := ?_) (by simp only [List.getElem?_toArray, List.getElem?_cons_succ, List.getElem?_cons_zero]; rfl) (by kernel_rfl) (by kernel_rfl) (by kernel_rfl) (by exact fun _ _ _ h => h) (Or.inl ⟨by rfl, ?_⟩) (by assumption) ?_
                  rotate_left
                  · (intro w hSw; (try dsimp only at hSw); go_simp; (try with_reducible rfl))
                  (try simp only [Act.put, List.setIfInBounds_toArray, List.set_cons_zero, List.set_cons_succ])
                  refine wpAnyH_take (i := 3) (v := ?_) (by simp only [List.getElem?_toArray, List.getElem?_cons_succ, List.getElem?_cons_zero]; rfl) (by kernel_rfl) (by kernel_rfl) (by kernel_rfl) (by exact fun _ _ _ h => h) (Or.inl ⟨by rfl, ?_⟩) (by assumption) ?_
                  rotate_left
                  · (intro w hSw; (try dsimp only at hSw); go_simp; (try with_reducible rfl))
                  (try simp only [Act.put, List.setIfInBounds_toArray, List.set_cons_zero, List.set_cons_succ])
                  refine wpAnyH_take (i := 4) (v := ?_) (by simp only [List.getElem?_toArray, List.getElem?_cons_succ, List.getElem?_cons_zero]; rfl) (by kernel_rfl) (by kernel_rfl) (by kernel_rfl) (by exact fun _ _ _ h => h) (Or.inl ⟨by rfl, ?_⟩) (by assumption) ?_
                  rotate_left
                  · (intro w hSw; (try dsimp only at hSw); go_simp; (try with_reducible rfl))
                  (try simp only [Act.put, List.setIfInBounds_toArray, List.set_cons_zero, List.set_cons_succ])
                  refine wpAnyH_take (i := 5) (v := ?_) (by simp only [List.getElem?_toArray, List.getElem?_cons_succ, List.getElem?_cons_zero]; rfl) (by kernel_rfl) (by kernel_rfl) (by kernel_rfl) (by exact fun _ _ _ h => h) (Or.inl ⟨by rfl, ?_⟩) (by assumption) ?_
                  rotate_left
                  · (intro w hSw; (try dsimp only at hSw); go_simp; (try with_reducible rfl))
                  (try simp only [Act.put, List.setIfInBounds_toArray, List.set_cons_zero, List.set_cons_succ])
                  refine wpAnyH_take (i := 6) (v := ?_) (by simp only [List.getElem?_toArray, List.getElem?_cons_succ, List.getElem?_cons_zero]; rfl) (by kernel_rfl) (by kernel_rfl) (by kernel_rfl) (by exact fun _ _ _ h => h) (Or.inl ⟨by rfl, ?_⟩) (by assumption) ?_
                  rotate_left
                  · (intro w hSw; (try dsimp only at hSw); go_simp; (try with_reducible rfl))
                  (try simp only [Act.put, List.setIfInBounds_toArray, List.set_cons_zero, List.set_cons_succ])
                  refine wpAnyH_take (i := 7) (v := ?_) (by simp only [List.getElem?_toArray, List.getElem?_cons_succ, List.getElem?_cons_zero]; rfl) (by kernel_rfl) (by kernel_rfl) (by kernel_rfl) (by exact fun _ _ _ h => h) (Or.inl ⟨by rfl, ?_⟩) (by assumption) ?_
                  rotate_left
                  · (intro w hSw; (try dsimp only at hSw); go_simp; (try with_reducible rfl))
                  (try simp only [Act.put, List.setIfInBounds_toArray, List.set_cons_zero, List.set_cons_succ])
                  refine wpAnyH_take (i := 8) (v := ?_) (by simp only [List.getElem?_toArray, List.getElem?_cons_succ, List.getElem?_cons_zero]; rfl) (by kernel_rfl) (by kernel_rfl) (by kernel_rfl) (by exact fun _ _ _ h => h) (Or.inl ⟨by rfl, ?_⟩) (by assumption) ?_
                  rotate_left
                  · (intro w hSw; (try dsimp only at hSw); go_simp; (try with_reducible rfl))
                  (try simp only [Act.put, List.setIfInBounds_toArray, List.set_cons_zero, List.set_cons_succ])
                  refine wpAnyH_take (i := 9) (v := ?_) (by simp only [List.getElem?_toArray, List.getElem?_cons_succ, List.getElem?_cons_zero]; rfl) (by kernel_rfl) (by kernel_rfl) (by kernel_rfl) (by exact fun _ _ _ h => h) (Or.inl ⟨by rfl, ?_⟩) (by assumption) ?_
                  rotate_left
                  · (intro w hSw; (try dsimp only at hSw); go_simp; (try with_reducible rfl))
                  (try simp only [Act.put, List.setIfInBounds_toArray, List.set_cons_zero, List.set_cons_succ])
                  refine wpAnyH_take (i := 10) (v := ?_) (by simp only [List.getElem?_toArray, List.getElem?_cons_succ, List.getElem?_cons_zero]; rfl) (by kernel_rfl) (by kernel_rfl) (by kernel_rfl) (by exact fun _ _ _ h => h) (Or.inl ⟨by rfl, ?_⟩) (by assumption) ?_
                  rotate_left
                  · (intro w hSw; (try dsimp only at hSw); go_simp; (try with_reducible rfl))
                  (try simp only [Act.put, List.setIfInBounds_toArray, List.set_cons_zero, List.set_cons_succ])
                  refine wpAnyH_take (i := 11) (v := ?_) (by simp only [List.getElem?_toArray, List.getElem?_cons_succ, List.getElem?_cons_zero]; rfl) (by kernel_rfl) (by kernel_rfl) (by kernel_rfl) (by exact fun _ _ _ h => h) (Or.inl ⟨by rfl, ?_⟩) (by assumption) ?_
                  rotate_left
                  · (intro w hSw; (try dsimp only at hSw); go_simp; (try with_reducible rfl))
                  (try simp only [Act.put, List.setIfInBounds_toArray, List.set_cons_zero, List.set_cons_succ])
                  refine wpAnyH_take (i := 12) (v := ?_) (by simp only [List.getElem?_toArray, List.getElem?_cons_succ, List.getElem?_cons_zero]; rfl) (by kernel_rfl) (by kernel_rfl) (by kernel_rfl) (by exact fun _ _ _ h => h) (Or.inl ⟨by rfl, ?_⟩) (by assumption) ?_
                  rotate_left
                  · (intro w hSw; (try dsimp only at hSw); go_simp; (try with_reducible rfl))
                  (try simp only [Act.put, List.setIfInBounds_toArray, List.set_cons_zero, List.set_cons_succ])
                  refine wpAnyH_take (i := 13) (v := ?_) (by simp only [List.getElem?_toArray, List.getElem?_cons_succ, List.getElem?_cons_zero]; rfl) (by kernel_rfl) (by kernel_rfl) (by kernel_rfl) (by exact fun _ _ _ h => h) (Or.inl ⟨by rfl, ?_⟩) (by assumption) ?_
                  rotate_left
                  · (intro w hSw; (try dsimp only at hSw); go_simp; (try with_reducible rfl))
                  (try simp only [Act.put, List.setIfInBounds_toArray, List.set_cons_zero, List.set_cons_succ])
                  refine wpAnyH_ready (rs := [14]) (by kernel_rfl) (by simp) ?_
                  refine AllReadyH.cons (by simp only [List.getElem?_toArray, List.getElem?_cons_succ, List.getElem?_cons_zero]; rfl) (fun K hK => ?_) AllReadyH.nil
                  go_simp
                  refine (HQ9.out ▸ lrule_any r q hlt (by rw [← HOO.out]; exact hlt3) _ (N i) (T i) F L _ TR ht hn2 HNM.out hL hLM).mono ?_
                  rintro e w31 ⟨rfl, b31⟩
                  rw [HFB.out, show rpV (ev r) (some nd) = .tuple #[.int .i64 (nd : Int), .int .i64 (ev r)] from rfl]
                  go_wp2_with fail
                  replace ht := ht.below b31
                  replace TR := TR.below b31
                  replace CO := CO.below b31
                  replace CQ := CQ.below b31
                  replace CC := CC.below b31
                  replace VM := VM.below b31
                  replace VR := VR.below b31
                  replace BB := BB.trans (b31.mono BB.size)
                  replace BLR := BLR.trans (b31.mono BLR.size)
                  clear b31
                  refine hK.out _ _ ?_ (fun hH1 => ?_)
                  · exact ⟨VM.1, VM.2.1, CC.cell, CO.cell, CQ.cell⟩
                  clear hK K hHeld
                  (try simp only [Act.put, List.setIfInBounds_toArray, List.set_cons_zero, List.set_cons_succ])
                  refine wpAnyH_take (i := 15) (v := ?_) (by simp only [List.getElem?_toArray, List.getElem?_cons_succ, List.getElem?_cons_zero]; rfl) (by kernel_rfl) (by kernel_rfl) (by kernel_rfl) (by exact fun _ _ _ h => h) (Or.inl ⟨by rfl, ?_⟩) (by assumption) ?_
                  rotate_left
                  · (intro w hSw; (try dsimp only at hSw); go_simp; (try with_reducible rfl))
                  (try simp only [Act.put, List.setIfInBounds_toArray, List.set_cons_zero, List.set_cons_succ])
                  refine wpAnyH_take (i := 16) (v := ?_) (by simp only [List.getElem?_toArray, List.getElem?_cons_succ, List.getElem?_cons_zero]; rfl) (by kernel_rfl) (by kernel_rfl) (by kernel_rfl) (by exact fun _ _ _ h => h) (Or.inl ⟨by rfl, ?_⟩) (by assumption) ?_
                  rotate_left
                  · (intro w hSw; (try dsimp only at hSw); go_simp; (try with_reducible rfl))
                  (try simp only [Act.put, List.setIfInBounds_toArray, List.set_cons_zero, List.set_cons_succ])
                  refine wpAnyH_take (i := 17) (v := ?_) (by simp only [List.getElem?_toArray, List.getElem?_cons_succ, List.getElem?_cons_zero]; rfl) (by kernel_rfl) (by kernel_rfl) (by kernel_rfl) (by exact fun _ _ _ h => h) (Or.inl ⟨by rfl, ?_⟩) (by assumption) ?_
                  rotate_left
                  · (intro w hSw; (try dsimp only at hSw); go_simp; (try with_reducible rfl))
                  (try simp only [Act.put, List.setIfInBounds_toArray, List.set_cons_zero, List.set_cons_succ])
                  refine wpAnyH_take (i := 18) (v := ?_) (by simp only [List.getElem?_toArray, List.getElem?_cons_succ, List.getElem?_cons_zero]; rfl) (by kernel_rfl) (by kernel_rfl) (by kernel_rfl) (by exact fun _ _ _ h => h) (Or.inl ⟨by rfl, ?_⟩) (by assumption) ?_
                  rotate_left
                  · (intro w hSw; (try dsimp only at hSw); go_simp; (try with_reducible rfl))
                  (try simp only [Act.put, List.setIfInBounds_toArray, List.set_cons_zero, List.set_cons_succ])
                  refine wpAnyH_take (i := 19) (v := ?_) (by simp only [List.getElem?_toArray, List.getElem?_cons_succ, List.getElem?_cons_zero]; rfl) (by kernel_rfl) (by kernel_rfl) (by kernel_rfl) (by exact fun _ _ _ h => h) (Or.inl ⟨by rfl, ?_⟩) (by assumption) ?_
                  rotate_left
                  · (intro w hSw; (try dsimp only at hSw); go_simp; (try with_reducible rfl))
                  (try simp only [Act.put, List.setIfInBounds_toArray, List.set_cons_zero, List.set_cons_succ])
                  refine wpAnyH_done (by kernel_rfl) ?_ _
                  clear hH1
                  obtain ⟨er, hevr⟩ : ∃ z, ev r = z := ⟨_, rfl⟩
                  rw [hevr] at her HX ⊢
                  clear hevr HB HI HQ
                  have herb : (er != 0) = true := by simp; exact her
                  obtain ⟨⟨q1, q2, q3, q4, q5, q6⟩, q7, q8⟩ := id VR
                  go_wp2
                  (try simp only [Exit.inBlock, Exit.then])
                  refine bodyPost_ret (v := .agg #[.int .i64 er, .int .i64 0, .int .i64 (i : Int), .int .i64 (nd : Int)]) (by simp [results, go_sem, q1, q2, q3, q7]) rfl ?_
                  exact ⟨_, rfl, .inr ⟨HM.out, _, HX.out, rfl⟩, below_store4 BB (by omega) _ _ _ _⟩
              · clear XI0
                obtain rfl : q = o := by omega
                have g4 : ¬ (q : Int) < (q : Int) := by omega
                have HI2 : Hid (∀ i', i' < i + 1 → rl F (T i') (N i') r = none) := fun i' h => by
                  by_cases e : i' = i
                  · subst e; exact rl_of_none hlt (fun j hj => HQ.out j (by rw [HOO.out]; exact hj))
                  · exact HI.out i' (by omega)
                clear HI HQ
                go_wp2
                go_roundw
                case rel => exact ⟨i + 1, by omega, by go_num, HI2, BL⟩
                case measure => simp [intOf]; omega
          · have HB2 : Hid (∀ r', r' < r + 1 → ∀ i, i < k → rl F (T i) (N i) r' = none) := fun r' h i' hi' => by
              by_cases e : r' = r
              · subst e; exact HI.out i' (by omega)
              · exact HB.out r' (by omega) i' hi'
            clear HB HI
            obtain rfl : i = k := by omega
            have g2 : ¬ (i : Int) < (i : Int) := by omega
            go_wp2
            go_roundw
            case rel => exact ⟨r + 1, by omega, by go_num, HB2, BL⟩
            case measure => simp [intOf]; omega
      · obtain rfl : r = 4 := by omega
        have VR := VR0.below BL
        have BB := BB0.out.trans (BL.mono BB0.out.size)
        obtain ⟨⟨q1, q2, q3, q4, q5, q6⟩, q7, q8⟩ := id VR
        go_wp2
        (try simp only [Exit.inBlock, Exit.then])
        refine bodyPost_ret (v := .agg #[.int .i64 0, .int .i64 0, .int .i64 0, .int .i64 0]) (by simp [results, go_sem, q1, q2, q3, q7]) rfl ?_
        exact ⟨_, rfl, .inr ⟨HM.out, none, .inl ⟨rfl, HB.out⟩, rfl⟩, below_store4 BB (by omega) _ _ _ _⟩
end Go.Proofs.YtjmagcgobhaenaaDoor

namespace Go.Proofs.YtjmagcgobhaenaaDoor
open Go.ChangeShapes Go.WideShapes Go.ChangeAt Go.RowKit
set_option linter.unusedVariables false
structure Cl where
  miss : Bool
  val : Rat
def CellRaw (w : World) (el : Nat → Value) (d : Cl) (K : Nat) : Prop := el 0 = .bool d.miss ∧ RawN w (el 1) (el 2) (el 3) d.val K
def CellAt (w : World) (el : Nat → Value) (d : Cl) (L : Nat) : Prop := el 0 = .bool d.miss ∧ AtN w (el 1) (el 2) (el 3) d.val L
theorem CellRaw.below {w w' : World} {el : Nat → Value} {d : Cl} {K : Nat} (h : CellRaw w el d K) (hb : Below w.heap.size w w') : CellRaw w' el d K := ⟨h.1, h.2.below hb⟩
theorem CellAt.below {w w' : World} {el : Nat → Value} {d : Cl} {L : Nat} (h : CellAt w el d L) (hb : Below w.heap.size w w') : CellAt w' el d L := ⟨h.1, h.2.below hb⟩
theorem CellAt.keepL {w w' : World} {el : Nat → Value} {d : Cl} {L : Nat} (h : CellAt w el d L) (hk : KeepQ IsLimb w w') : CellAt w' el d L := ⟨h.1, h.2.keepL hk⟩
theorem CellAt.congr {w : World} {el el' : Nat → Value} {d : Cl} {L : Nat} (h : CellAt w el d L) (e : ∀ j, j < 4 → el j = el' j) : CellAt w el' d L := by
  unfold CellAt at h ⊢
  rw [← e 0 (by omega), ← e 1 (by omega), ← e 2 (by omega), ← e 3 (by omega)]
  exact h
theorem AtN.mono {w : World} {x y z : Value} {q : Rat} {L L' : Nat} (h : AtN w x y z q L) (hL : L ≤ L') : AtN w x y z q L' := by
  obtain ⟨p, ao, m, c, bo, k, d, a, b, e, r⟩ := h
  exact ⟨p, ao, m, c, bo, k, d, a, b, e, r.le hL⟩
theorem CellAt.mono {w : World} {el : Nat → Value} {d : Cl} {L L' : Nat} (h : CellAt w el d L) (hL : L ≤ L') : CellAt w el d L' := ⟨h.1, h.2.mono hL⟩
def CRaw (w : World) (v : Value) (n : Nat) (t : Nat → Cl) (K : Nat) : Prop := ∃ el, RowAt 4 w v n el ∧ ∀ i, i < n → CellRaw w (el i) (t i) K
def CRow (w : World) (v : Value) (n : Nat) (t : Nat → Cl) (L : Nat) : Prop := ∃ el, RowAt 4 w v n el ∧ ∀ i, i < n → CellAt w (el i) (t i) L
theorem CRaw.below {w w' : World} {v : Value} {n : Nat} {t : Nat → Cl} {K : Nat} (h : CRaw w v n t K) (hb : Below w.heap.size w w') : CRaw w' v n t K := by
  obtain ⟨el, h1, h2⟩ := h
  exact ⟨el, h1.below hb, fun i hi => (h2 i hi).below hb⟩
theorem CRow.below {w w' : World} {v : Value} {n : Nat} {t : Nat → Cl} {L : Nat} (h : CRow w v n t L) (hb : Below w.heap.size w w') : CRow w' v n t L := by
  obtain ⟨el, h1, h2⟩ := h
  exact ⟨el, h1.below hb, fun i hi => (h2 i hi).below hb⟩
theorem CRow.open {w : World} {v : Value} {n : Nat} {t : Nat → Cl} {L : Nat} (h : CRow w v n t L) : ∃ a c, v = .slice a n c ∧ n ≤ c ∧ c ≤ 9223372036854775807 := by
  obtain ⟨el, ⟨a, c, h1, h2, h3, _⟩, _⟩ := h
  exact ⟨a, c, h1, h2, h3⟩
theorem CRaw.open {w : World} {v : Value} {n : Nat} {t : Nat → Cl} {L : Nat} (h : CRaw w v n t L) : ∃ a c, v = .slice a n c ∧ n ≤ c ∧ c ≤ 9223372036854775807 := by
  obtain ⟨el, ⟨a, c, h1, h2, h3, _⟩, _⟩ := h
  exact ⟨a, c, h1, h2, h3⟩
theorem CRow.at {w : World} {v : Value} {n : Nat} {t : Nat → Cl} {L : Nat} (h : CRow w v n t L) {i : Nat} (hi : i < n) :
    ∃ b off c p1 a1 n1 c1 b1 m1 d1, v = .slice (some ⟨b, off, none⟩) n c ∧ n ≤ c ∧ c ≤ 9223372036854775807 ∧
      w.cell? ⟨b, off + i * 4, none⟩ = some (.bool (t i).miss) ∧ w.cell? ⟨b, off + i * 4 + 1, none⟩ = some (.bool p1) ∧ w.cell? ⟨b, off + i * 4 + 2, none⟩ = some (.slice a1 n1 c1) ∧ w.cell? ⟨b, off + i * 4 + 3, none⟩ = some (.slice b1 m1 d1) ∧
      RatAt w (.agg #[.bool p1, .slice a1 n1 c1, .slice b1 m1 d1]) (t i).val L := by
  obtain ⟨el, ⟨a, c, h1, h2, h3, h4⟩, h5⟩ := h
  obtain ⟨b, off, rfl, hc⟩ := h4 (by omega)
  obtain ⟨e0, p1, a1, n1, c1, b1, m1, d1, e1, e2, e3, r1⟩ := h5 i hi
  have hc := hc i hi
  exact ⟨b, off, c, p1, a1, n1, c1, b1, m1, d1, h1, h2, h3, (hc 0 (by omega)).trans (by rw [e0]), (hc 1 (by omega)).trans (by rw [e1]), (hc 2 (by omega)).trans (by rw [e2]), (hc 3 (by omega)).trans (by rw [e3]), r1⟩
theorem CRaw.at {w : World} {v : Value} {n : Nat} {t : Nat → Cl} {K : Nat} (h : CRaw w v n t K) {i : Nat} (hi : i < n) :
    ∃ b off c p1 a1 n1 c1 b1 m1 d1 f1 g1, v = .slice (some ⟨b, off, none⟩) n c ∧ n ≤ c ∧ c ≤ 9223372036854775807 ∧
      w.cell? ⟨b, off + i * 4, none⟩ = some (.bool (t i).miss) ∧ w.cell? ⟨b, off + i * 4 + 1, none⟩ = some (.bool p1) ∧ w.cell? ⟨b, off + i * 4 + 2, none⟩ = some (.slice a1 n1 c1) ∧ w.cell? ⟨b, off + i * 4 + 3, none⟩ = some (.slice b1 m1 d1) ∧
      Raw w (.slice a1 n1 c1) n1 f1 ∧ Raw w (.slice b1 m1 d1) m1 g1 ∧ (t i).val = mkRat (zof p1 (num f1 (min n1 K))) (num g1 (min m1 K)) := by
  obtain ⟨el, ⟨a, c, h1, h2, h3, h4⟩, h5⟩ := h
  obtain ⟨b, off, rfl, hc⟩ := h4 (by omega)
  obtain ⟨e0, p1, a1, n1, c1, b1, m1, d1, f1, g1, e1, e2, e3, r1⟩ := h5 i hi
  have hc := hc i hi
  exact ⟨b, off, c, p1, a1, n1, c1, b1, m1, d1, f1, g1, h1, h2, h3, (hc 0 (by omega)).trans (by rw [e0]), (hc 1 (by omega)).trans (by rw [e1]), (hc 2 (by omega)).trans (by rw [e2]), (hc 3 (by omega)).trans (by rw [e3]), r1⟩
theorem CRow.mono {w : World} {v : Value} {n : Nat} {t : Nat → Cl} {L L' : Nat} (h : CRow w v n t L) (hL : L ≤ L') : CRow w v n t L' := by
  obtain ⟨el, h1, h2⟩ := h
  exact ⟨el, h1, fun i hi => (h2 i hi).mono hL⟩
theorem CRow.congr {w : World} {v : Value} {n : Nat} {t t' : Nat → Cl} {L : Nat} (h : CRow w v n t L) (e : ∀ i, i < n → t i = t' i) : CRow w v n t' L := by
  obtain ⟨el, h1, h2⟩ := h
  exact ⟨el, h1, fun i hi => e i hi ▸ h2 i hi⟩
def ARaw (w : World) (v : Value) (k : Nat) (N : Nat → Nat) (t : Nat → Nat → Cl) (K : Nat) : Prop := ∃ el, RowAt 1 w v k el ∧ ∀ i, i < k → CRaw w (el i 0) (N i) (t i) K
def ARow (w : World) (v : Value) (k : Nat) (N : Nat → Nat) (t : Nat → Nat → Cl) (L : Nat) : Prop := ∃ el, RowAt 1 w v k el ∧ ∀ i, i < k → CRow w (el i 0) (N i) (t i) L
theorem ARaw.below {w w' : World} {v : Value} {k : Nat} {N : Nat → Nat} {t : Nat → Nat → Cl} {K : Nat} (h : ARaw w v k N t K) (hb : Below w.heap.size w w') : ARaw w' v k N t K := by
  obtain ⟨el, h1, h2⟩ := h
  exact ⟨el, h1.below hb, fun i hi => (h2 i hi).below hb⟩
theorem ARow.below {w w' : World} {v : Value} {k : Nat} {N : Nat → Nat} {t : Nat → Nat → Cl} {L : Nat} (h : ARow w v k N t L) (hb : Below w.heap.size w w') : ARow w' v k N t L := by
  obtain ⟨el, h1, h2⟩ := h
  exact ⟨el, h1.below hb, fun i hi => (h2 i hi).below hb⟩
theorem ARow.open {w : World} {v : Value} {k : Nat} {N : Nat → Nat} {t : Nat → Nat → Cl} {L : Nat} (h : ARow w v k N t L) : ∃ a c, v = .slice a k c ∧ k ≤ c ∧ c ≤ 9223372036854775807 := by
  obtain ⟨el, ⟨a, c, h1, h2, h3, _⟩, _⟩ := h
  exact ⟨a, c, h1, h2, h3⟩
theorem ARaw.open {w : World} {v : Value} {k : Nat} {N : Nat → Nat} {t : Nat → Nat → Cl} {L : Nat} (h : ARaw w v k N t L) : ∃ a c, v = .slice a k c ∧ k ≤ c ∧ c ≤ 9223372036854775807 := by
  obtain ⟨el, ⟨a, c, h1, h2, h3, _⟩, _⟩ := h
  exact ⟨a, c, h1, h2, h3⟩
theorem ARow.at {w : World} {v : Value} {k : Nat} {N : Nat → Nat} {t : Nat → Nat → Cl} {L : Nat} (h : ARow w v k N t L) {i : Nat} (hi : i < k) : ∃ b off c a d, v = .slice (some ⟨b, off, none⟩) k c ∧ k ≤ c ∧ w.cell? ⟨b, off + i, none⟩ = some (.slice a (N i) d) ∧ CRow w (.slice a (N i) d) (N i) (t i) L := by
  obtain ⟨el, ⟨a, c, h1, h2, h3, h4⟩, h5⟩ := h
  obtain ⟨b, off, rfl, hc⟩ := h4 (by omega)
  obtain ⟨a, d, e, _⟩ := (h5 i hi).open
  have := hc i hi 0 (by omega)
  rw [Nat.mul_one, Nat.add_zero, e] at this
  exact ⟨b, off, c, a, d, h1, h2, this, e ▸ h5 i hi⟩
theorem ARaw.at {w : World} {v : Value} {k : Nat} {N : Nat → Nat} {t : Nat → Nat → Cl} {L : Nat} (h : ARaw w v k N t L) {i : Nat} (hi : i < k) : ∃ b off c a d, v = .slice (some ⟨b, off, none⟩) k c ∧ k ≤ c ∧ w.cell? ⟨b, off + i, none⟩ = some (.slice a (N i) d) ∧ CRaw w (.slice a (N i) d) (N i) (t i) L := by
  obtain ⟨el, ⟨a, c, h1, h2, h3, h4⟩, h5⟩ := h
  obtain ⟨b, off, rfl, hc⟩ := h4 (by omega)
  obtain ⟨a, d, e, _⟩ := (h5 i hi).open
  have := hc i hi 0 (by omega)
  rw [Nat.mul_one, Nat.add_zero, e] at this
  exact ⟨b, off, c, a, d, h1, h2, this, e ▸ h5 i hi⟩
theorem cells4 {l : List Value} (h : l.length = 4) : ∃ x0 x1 x2 x3, l = [x0, x1, x2, x3] := by
  match l, h with
  | [x0, x1, x2, x3], _ => exact ⟨x0, x1, x2, x3, rfl⟩
end Go.Proofs.YtjmagcgobhaenaaDoor

namespace Go.Proofs.YtjmagcgobhaenaaDoor
set_option linter.unusedVariables false
set_option linter.unusedSimpArgs false
structure MayT (F : Int) (t : Nat → Nd) (n : Nat) : Prop where
  pos : 1 ≤ n
  few : n ≤ 255
  feat : ∀ i, i < n → (t i).leaf = false → 0 ≤ (t i).feat ∧ (t i).feat < F
  named : Named t n
  once : Once t n
  up : ∀ i, i < n → lawUp t n (n + 1) i = true
  cov : ∀ i, i < n → 0 < (t i).cov
  parts : ∀ i, i < n → (t i).leaf = false → (t i).cov = (t (t i).left.toNat).cov + (t (t i).right.toNat).cov
theorem rl_none1 {F : Int} {t : Nat → Nd} {n : Nat} (h : rl F t n 1 = none) : fb (bad1 t n) n = none ∧ fb (bad2 t n) n = none := by
  simp only [rl, Option.map_eq_none_iff] at h
  cases e : fb (bad1 t n) n with
  | none => rw [e] at h; exact ⟨rfl, by simpa using h⟩
  | some i => rw [e] at h; simp at h
theorem mayT_of {F : Int} {t : Nat → Nd} {n : Nat} (hf : tfit t n = true) (h : ∀ r, r < 4 → rl F t n r = none) : MayT F t n := by
  unfold tfit at hf
  simp only [Bool.and_eq_true, decide_eq_true_eq, Option.isNone_iff_eq_none] at hf
  have h0 := h 0 (by omega)
  have h1 := rl_none1 (h 1 (by omega))
  have h2 := h 2 (by omega)
  have h3 := h 3 (by omega)
  simp only [rl, Option.map_eq_none_iff] at h0 h2 h3
  refine ⟨hf.1.1, hf.1.2, fun i hi hl => ?_, rl0_named (h 0 (by omega)), bad1_once h1.1, fun i hi => ?_, fun i hi => ?_, fun i hi hl => ?_⟩
  · have a := fb_is hf.2 i hi
    have b := fb_is h0 i hi
    unfold badF at a
    unfold bad0 at b
    rw [hl] at b
    simp only [Bool.not_false, Bool.true_and, Bool.or_eq_false_iff, decide_eq_false_iff_not] at b
    simp only [Bool.not_eq_false', Bool.and_eq_true, decide_eq_true_eq] at a
    omega
  · have := fb_is h1.2 i hi
    unfold bad2 at this
    simpa using this
  · have := fb_is h2 i hi
    unfold bad3 at this
    rw [decide_eq_false_iff_not] at this
    grind
  · have := fb_is h3 i hi
    unfold bad4 at this
    rw [hl] at this
    simpa using this
theorem ChkOut.may {F : Int} {k : Nat} {N : Nat → Nat} {T : Nat → Nat → Nd} {s d : Int} (h : ChkOut F k N T (.agg #[.int .i64 0, .int .i64 0, .int .i64 s, .int .i64 d])) : 0 ≤ F ∧ F ≤ 64 ∧ k ≤ 64 ∧ ∀ i, i < k → MayT F (T i) (N i) := by
  rcases h with ⟨_, e⟩ | ⟨hf, x, hx, e⟩
  · simp at e
  · rcases hx with ⟨rfl, hx⟩ | ⟨r, i, er, nd, hr, hi, rfl, h1, _⟩
    · have a := mfit_is hf
      refine ⟨a.1, a.2.1, a.2.2.1, fun i hi => mayT_of ?_ (fun r hr => hx r hr i hi)⟩
      unfold mfit at hf
      simp only [Bool.and_eq_true, decide_eq_true_eq, Option.isNone_iff_eq_none] at hf
      have := fb_is hf.2 i hi
      simpa using this
    · have := rl_err h1
      simp [fltV] at e
      omega
def lv (t : Nat → Nd) (n : Nat) : Nat → Nat → Nat
  | 0, _ => 0
  | k + 1, x => if x = 0 then 0 else match upOf t x n with
    | none => 0
    | some p => lv t n k p + 1
theorem lv_more {t : Nat → Nd} {n : Nat} : ∀ k x, lawUp t n k x = true → lv t n (k + 1) x = lv t n k x
  | 0, x, h => by simp [lawUp] at h
  | k + 1, x, h => by
    show (if x = 0 then 0 else match upOf t x n with | none => 0 | some p => lv t n (k + 1) p + 1) = (if x = 0 then 0 else match upOf t x n with | none => 0 | some p => lv t n k p + 1)
    unfold lawUp at h
    by_cases e : x = 0
    · rw [if_pos e, if_pos e]
    · rw [if_neg e] at h
      rw [if_neg e, if_neg e]
      cases u : upOf t x n with
      | none => rfl
      | some p =>
        rw [u] at h
        show lv t n (k + 1) p + 1 = lv t n k p + 1
        rw [lv_more k p h]
theorem lv_lt {t : Nat → Nd} {n : Nat} : ∀ k x, lawUp t n k x = true → lv t n k x < k
  | 0, x, h => by simp [lawUp] at h
  | k + 1, x, h => by
    rw [lv]
    unfold lawUp at h
    by_cases e : x = 0
    · rw [if_pos e]; exact Nat.succ_pos k
    · rw [if_neg e] at h
      rw [if_neg e]
      cases u : upOf t x n with
      | none => rw [u] at h; cases h
      | some p =>
        rw [u] at h
        have := lv_lt k p h
        show lv t n k p + 1 < k + 1
        omega
def lvl (t : Nat → Nd) (n x : Nat) : Nat := lv t n (n + 1) x
theorem MayT.lvl_le {F : Int} {t : Nat → Nd} {n : Nat} (h : MayT F t n) {x : Nat} (hx : x < n) : lvl t n x ≤ n := by
  have := lv_lt (n + 1) x (h.up x hx)
  unfold lvl
  omega
theorem MayT.lvl_kid {F : Int} {t : Nat → Nd} {n : Nat} (h : MayT F t n) {y x : Nat} (hy : y < n) (hx : x < n) (h1 : 1 ≤ x) (hk : kid t y x) : lvl t n x = lvl t n y + 1 := by
  have hu := h.up x hx
  unfold lvl
  unfold lawUp at hu
  rw [if_neg (by omega)] at hu
  cases u : upOf t x n with
  | none => rw [u] at hu; cases hu
  | some p =>
    rw [u] at hu
    obtain ⟨p1, p2⟩ := upOf_some u
    have : p = y := h.once.one h1 hx p1 hy p2 hk
    subst this
    rw [lv, if_neg (by omega), u]
    show lv t n n p + 1 = lv t n (n + 1) p + 1
    rw [lv_more n p hu]
def goL (a : Nd) (c : Cl) : Bool := if a.leaf = true then false else if c.miss = true then a.miss else decide (c.val < a.cut)
def nxt (a : Nd) (r : Nat → Cl) : Nat := if goL a (r a.feat.toNat) = true then a.left.toNat else a.right.toNat
def wayN (t : Nat → Nd) (r : Nat → Cl) : Nat → Nat → List Nat
  | 0, x => [x]
  | k + 1, x => if (t x).leaf = true then [x] else x :: wayN t r k (nxt (t x) r)
theorem nxt_kid {t : Nat → Nd} {n x : Nat} (hN : Named t n) (hx : x < n) (hl : (t x).leaf = false) (r : Nat → Cl) : 1 ≤ nxt (t x) r ∧ nxt (t x) r < n ∧ kid t x (nxt (t x) r) := by
  have := hN x hx hl
  unfold nxt
  by_cases g : goL (t x) (r (t x).feat.toNat) = true
  · rw [if_pos g]
    exact ⟨by omega, by omega, hl, .inl (by omega)⟩
  · rw [if_neg g]
    exact ⟨by omega, by omega, hl, .inr (by omega)⟩
theorem MayT.nxt {F : Int} {t : Nat → Nd} {n : Nat} (h : MayT F t n) {x : Nat} (hx : x < n) (hl : (t x).leaf = false) (r : Nat → Cl) : Go.Proofs.YtjmagcgobhaenaaDoor.nxt (t x) r < n ∧ lvl t n (Go.Proofs.YtjmagcgobhaenaaDoor.nxt (t x) r) = lvl t n x + 1 := by
  obtain ⟨h1, h2, h3⟩ := nxt_kid h.named hx hl r
  exact ⟨h2, h.lvl_kid hx h2 h1 h3⟩
theorem MayT.way_more {F : Int} {t : Nat → Nd} {n : Nat} (h : MayT F t n) (r : Nat → Cl) : ∀ k x, x < n → n + 1 ≤ lvl t n x + k → wayN t r (k + 1) x = wayN t r k x
  | 0, x, hx, hk => by have := h.lvl_le hx; omega
  | k + 1, x, hx, hk => by
    show (if (t x).leaf = true then [x] else x :: wayN t r (k + 1) (Go.Proofs.YtjmagcgobhaenaaDoor.nxt (t x) r)) = (if (t x).leaf = true then [x] else x :: wayN t r k (Go.Proofs.YtjmagcgobhaenaaDoor.nxt (t x) r))
    cases hl : (t x).leaf with
    | true => rfl
    | false =>
      obtain ⟨a, b⟩ := h.nxt hx hl r
      rw [if_neg (by simp), if_neg (by simp), h.way_more r k _ a (by omega)]
theorem MayT.way_plus {F : Int} {t : Nat → Nd} {n : Nat} (h : MayT F t n) (r : Nat → Cl) {k x : Nat} (hx : x < n) (hk : n + 1 ≤ lvl t n x + k) : ∀ d, wayN t r (k + d) x = wayN t r k x
  | 0 => rfl
  | d + 1 => by rw [← Nat.add_assoc, h.way_more r (k + d) x hx (by omega), h.way_plus r hx hk d]
def way (t : Nat → Nd) (n : Nat) (r : Nat → Cl) (x : Nat) : List Nat := wayN t r (n + 1) x
theorem way_leaf {t : Nat → Nd} {n x : Nat} {r : Nat → Cl} (hl : (t x).leaf = true) : way t n r x = [x] := by unfold way; rw [wayN, if_pos hl]
theorem MayT.way_split {F : Int} {t : Nat → Nd} {n : Nat} (h : MayT F t n) (r : Nat → Cl) {x : Nat} (hx : x < n) (hl : (t x).leaf = false) : way t n r x = x :: way t n r (Go.Proofs.YtjmagcgobhaenaaDoor.nxt (t x) r) := by
  obtain ⟨a, b⟩ := h.nxt hx hl r
  unfold way
  rw [wayN, if_neg (by simp [hl]), h.way_more r n _ a (by omega)]
theorem MayT.way_ind {F : Int} {t : Nat → Nd} {n : Nat} (h : MayT F t n) (r : Nat → Cl) {P : Nat → Prop} (h0 : ∀ x, x < n → (t x).leaf = true → P x) (h1 : ∀ x, x < n → (t x).leaf = false → P (Go.Proofs.YtjmagcgobhaenaaDoor.nxt (t x) r) → P x) : ∀ k x, x < n → n + 1 ≤ lvl t n x + k → P x
  | 0, x, hx, hk => by have := h.lvl_le hx; omega
  | k + 1, x, hx, hk => by
    cases hl : (t x).leaf with
    | true => exact h0 x hx hl
    | false =>
      obtain ⟨a, b⟩ := h.nxt hx hl r
      exact h1 x hx hl (h.way_ind r h0 h1 k _ a (by omega))
theorem MayT.by_way {F : Int} {t : Nat → Nd} {n : Nat} (h : MayT F t n) (r : Nat → Cl) {P : Nat → Prop} (h0 : ∀ x, x < n → (t x).leaf = true → P x) (h1 : ∀ x, x < n → (t x).leaf = false → P (Go.Proofs.YtjmagcgobhaenaaDoor.nxt (t x) r) → P x) {x : Nat} (hx : x < n) : P x := h.way_ind r h0 h1 (n + 1) x hx (by omega)
def wlast (t : Nat → Nd) (n : Nat) (r : Nat → Cl) (x : Nat) : Nat := (way t n r x).getLastD 0
theorem wlast_leaf {t : Nat → Nd} {n x : Nat} {r : Nat → Cl} (hl : (t x).leaf = true) : wlast t n r x = x := by unfold wlast; rw [way_leaf hl]; rfl
theorem way_ne (t : Nat → Nd) (n : Nat) (r : Nat → Cl) (x : Nat) : way t n r x ≠ [] := by
  unfold way
  rw [wayN]
  by_cases e : (t x).leaf = true
  · rw [if_pos e]; simp
  · rw [if_neg e]; simp
theorem MayT.wlast_split {F : Int} {t : Nat → Nd} {n : Nat} (h : MayT F t n) (r : Nat → Cl) {x : Nat} (hx : x < n) (hl : (t x).leaf = false) : wlast t n r x = wlast t n r (Go.Proofs.YtjmagcgobhaenaaDoor.nxt (t x) r) := by
  unfold wlast
  rw [h.way_split r hx hl]
  have := way_ne t n r (Go.Proofs.YtjmagcgobhaenaaDoor.nxt (t x) r)
  cases e : way t n r (Go.Proofs.YtjmagcgobhaenaaDoor.nxt (t x) r) with
  | nil => exact absurd e this
  | cons a l => simp [List.getLastD]
theorem MayT.wlast_is {F : Int} {t : Nat → Nd} {n : Nat} (h : MayT F t n) (r : Nat → Cl) {x : Nat} (hx : x < n) : wlast t n r x < n ∧ (t (wlast t n r x)).leaf = true :=
  h.by_way r (P := fun x => wlast t n r x < n ∧ (t (wlast t n r x)).leaf = true) (fun x hx hl => by rw [wlast_leaf hl]; exact ⟨hx, hl⟩) (fun x hx hl ih => by rw [h.wlast_split r hx hl]; exact ih) hx
theorem MayT.way_len {F : Int} {t : Nat → Nd} {n : Nat} (h : MayT F t n) (r : Nat → Cl) {x : Nat} (hx : x < n) : (way t n r x).length + lvl t n x ≤ n + 1 :=
  h.by_way r (P := fun x => (way t n r x).length + lvl t n x ≤ n + 1) (fun x hx hl => by have := h.lvl_le hx; rw [way_leaf hl]; simp; omega) (fun x hx hl ih => by
    have := (h.nxt hx hl r).2
    rw [h.way_split r hx hl]
    simp only [List.length_cons]
    omega) hx
theorem MayT.way_small {F : Int} {t : Nat → Nd} {n : Nat} (h : MayT F t n) (r : Nat → Cl) {x : Nat} (hx : x < n) : ∀ y ∈ way t n r x, y < n :=
  h.by_way r (P := fun x => ∀ y ∈ way t n r x, y < n) (fun x hx hl => by rw [way_leaf hl]; simp; exact hx) (fun x hx hl ih => by
    rw [h.way_split r hx hl]
    intro y hy
    rw [List.mem_cons] at hy
    rcases hy with rfl | hy
    · exact hx
    · exact ih y hy) hx
def leafV (T : Nat → Nat → Nd) (N : Nat → Nat) (r : Nat → Cl) (i : Nat) : Rat := (T i (wlast (T i) (N i) r 0)).val
def predN (T : Nat → Nat → Nd) (N : Nat → Nat) (r : Nat → Cl) : Nat → Rat
  | 0 => 0
  | k + 1 => predN T N r k + leafV T N r k
end Go.Proofs.YtjmagcgobhaenaaDoor

namespace Go.Proofs.YtjmagcgobhaenaaDoor
open Go.RowKit
set_option linter.unusedVariables false
set_option linter.unusedSimpArgs false
theorem cmpQ_lt10 (q r : Rat) : decide (cmpQ q r < 0) = decide (q < r) := by
  unfold cmpQ
  by_cases h : q < r
  · simp [h]
  · by_cases h2 : r < q
    · simp [h, h2]
    · simp [h, h2]
def Quad10 (w : World) (b o : Nat) (x y z u : Value) : Prop := w.cell? ⟨b, o, none⟩ = some x ∧ w.cell? ⟨b, o + 1, none⟩ = some y ∧ w.cell? ⟨b, o + 2, none⟩ = some z ∧ w.cell? ⟨b, o + 3, none⟩ = some u
theorem Quad10.out {w : World} {b o : Nat} {x y z u : Value} (h : Quad10 w b o x y z u) : w.cell? ⟨b, o, none⟩ = some x ∧ w.cell? ⟨b, o + 1, none⟩ = some y ∧ w.cell? ⟨b, o + 2, none⟩ = some z ∧ w.cell? ⟨b, o + 3, none⟩ = some u := h
theorem Quad10.below {w w' : World} {b o : Nat} {x y z u : Value} (h : Quad10 w b o x y z u) (hb : Below w.heap.size w w') : Quad10 w' b o x y z u := by
  have hl := World.block_lt_of_cell? w _ h.1
  exact ⟨(hb.cell (p := ⟨b, o, none⟩) hl).trans h.1, (hb.cell (p := ⟨b, o + 1, none⟩) hl).trans h.2.1, (hb.cell (p := ⟨b, o + 2, none⟩) hl).trans h.2.2.1, (hb.cell (p := ⟨b, o + 3, none⟩) hl).trans h.2.2.2⟩

theorem one_cell (w : World) (u : Value) (t : TypeId) : RowAt 1 (w.alloc (.cells #[u] t)) (.slice (some ⟨w.heap.size, 0, none⟩) 1 1) 1 (fun _ _ => u) := by
  refine ⟨_, _, rfl, Nat.le_refl _, by omega, fun _ => ⟨_, _, rfl, fun i hi j hj => ?_⟩⟩
  obtain rfl : i = 0 := by omega
  obtain rfl : j = 0 := by omega
  rw [cell_of_row _ _ _ _ _ _ (heap_alloc_new w (.cells #[u] t))]
  rfl
theorem one_tree {w : World} {v : Value} {n : Nat} {t : Nat → Nd} {L : Nat} (hv : TRow w v n t L) (ty : TypeId) : MRow (w.alloc (.cells #[v] ty)) (.slice (some ⟨w.heap.size, 0, none⟩) 1 1) 1 (fun _ => n) (fun _ => t) L :=
  ⟨_, one_cell w v ty, fun _ _ => hv.below ((Below.refl _ _).alloc (Nat.le_refl _) _)⟩
theorem one_raw {w : World} {v : Value} {n : Nat} {t : Nat → Nd} {L : Nat} (hv : TRaw w v n t L) (ty : TypeId) : MRaw (w.alloc (.cells #[v] ty)) (.slice (some ⟨w.heap.size, 0, none⟩) 1 1) 1 (fun _ => n) (fun _ => t) L :=
  ⟨_, one_cell w v ty, fun _ _ => hv.below ((Below.refl _ _).alloc (Nat.le_refl _) _)⟩
set_option maxRecDepth 100000 in
set_option maxHeartbeats 4000000 in
theorem tree_at (F : Int) (v : Value) (n : Nat) (t : Nat → Nd) (L : Nat) (w : World) (hv : TRow w v n t L) (ht : Tab w) (hL : 1 ≤ L) (hLM : L ≤ 30000) :
    Calls Tryd.prog 23 #[v, .int .i64 F] w fun e w' => ∃ a s d : Int, e = .returned (.bool (decide (a = 0))) ∧ ChkOut F 1 (fun _ => n) (fun _ => t) (.agg #[.int .i64 a, .int .i64 0, .int .i64 s, .int .i64 d]) ∧ Below w.heap.size w w' := by
  obtain ⟨ao, c, rfl, hnc, hc63⟩ := hv.open
  have BB : Below w.heap.size w w := Below.refl _ _
  have M1 := one_tree hv 33
  have hA : Below w.heap.size w (w.alloc (.cells #[.slice ao n c] 33)) := (Below.refl _ _).alloc (Nat.le_refl _) _
  have ht1 := ht.below hA
  go_enter Tryd.func23, Tryd.ntmps23
  go_wp2_with fail
  refine (ok_at F _ 1 (fun _ => n) (fun _ => t) L _ M1 ht1 hL hLM).mono ?_
  rintro e w1 ⟨a, s, d, rfl, HC, b1⟩
  have HCC : Hid (ChkOut F 1 (fun _ => n) (fun _ => t) (.agg #[.int .i64 a, .int .i64 0, .int .i64 s, .int .i64 d])) := HC
  have BB1 := hA.trans (b1.mono hA.size)
  clear HC b1 M1 ht1 hA
  generalize hd : decide (a = 0) = dd
  have HD : Hid (decide (a = 0) = dd) := hd
  clear hd
  go_wp2
  go_ret
  exact ⟨a, s, d, by rw [HD.out]; rfl, HCC.out, BB1⟩

noncomputable def mayB (F : Int) (k : Nat) (N : Nat → Nat) (T : Nat → Nat → Nd) : Bool := @decide (ChkOut F k N T (.agg #[.int .i64 0, .int .i64 0, .int .i64 0, .int .i64 0])) (Classical.propDecidable _)
theorem mayB_of {F : Int} {k : Nat} {N : Nat → Nat} {T : Nat → Nat → Nd} {a s d : Int} (h : ChkOut F k N T (.agg #[.int .i64 a, .int .i64 0, .int .i64 s, .int .i64 d])) : decide (a = 0) = mayB F k N T := by
  unfold mayB
  by_cases e : a = 0
  · subst e
    obtain ⟨a2, s2, d2, e2, hz⟩ := h.open
    injection e2 with e2
    simp only [Array.mk.injEq, List.cons.injEq, Value.int.injEq, true_and, and_true] at e2
    obtain ⟨e0, es, ed⟩ := e2
    obtain ⟨rfl, rfl⟩ := hz e0.symm
    subst es ed
    rw [decide_eq_true rfl]
    exact (@decide_eq_true _ (Classical.propDecidable _) h).symm
  · rw [decide_eq_false e]
    refine (@decide_eq_false _ (Classical.propDecidable _) (fun h2 => e ?_)).symm
    have := h.one h2
    injection this with this
    simp only [Array.mk.injEq, List.cons.injEq, Value.int.injEq, true_and, and_true] at this
    exact this.1
theorem mayB_may {F : Int} {k : Nat} {N : Nat → Nat} {T : Nat → Nat → Nd} (h : mayB F k N T = true) : 0 ≤ F ∧ F ≤ 64 ∧ k ≤ 64 ∧ ∀ i, i < k → MayT F (T i) (N i) := by
  unfold mayB at h
  exact (@of_decide_eq_true _ (Classical.propDecidable _) h).may
theorem tree_may (F : Int) (v : Value) (n : Nat) (t : Nat → Nd) (L : Nat) (w : World) (hv : TRow w v n t L) (ht : Tab w) (hL : 1 ≤ L) (hLM : L ≤ 30000) :
    Calls Tryd.prog 23 #[v, .int .i64 F] w fun e w' => e = .returned (.bool (mayB F 1 (fun _ => n) (fun _ => t))) ∧ Below w.heap.size w w' := by
  refine (tree_at F v n t L w hv ht hL hLM).mono ?_
  rintro e w' ⟨a, s, d, rfl, h, hb⟩
  exact ⟨by rw [mayB_of h], hb⟩
theorem ok_may (F : Int) (v : Value) (k : Nat) (N : Nat → Nat) (T : Nat → Nat → Nd) (L : Nat) (w : World) (hv : MRow w v k N T L) (ht : Tab w) (hL : 1 ≤ L) (hLM : L ≤ 30000) :
    Calls Tryd.prog 17 #[.agg #[.int .i64 F, v]] w fun e w' => e = .returned (.bool (mayB F k N T)) ∧ Below w.heap.size w w' := by
  refine (ok_at F v k N T L w hv ht hL hLM).mono ?_
  rintro e w' ⟨a, s, d, rfl, h, hb⟩
  exact ⟨by rw [mayB_of h], hb⟩
def WInv (t : Nat → Nd) (n : Nat) (r : Nat → Cl) (zs : List Nat) (x : Nat) : Prop := x < n ∧ ∃ pre, zs = pre ++ [x] ∧ pre ++ way t n r x = way t n r 0
theorem WInv.start {t : Nat → Nd} {n : Nat} (r : Nat → Cl) (h : 0 < n) : WInv t n r [0] 0 := ⟨h, [], rfl, rfl⟩
theorem WInv.leaf {t : Nat → Nd} {n : Nat} {r : Nat → Cl} {zs : List Nat} {x : Nat} (h : WInv t n r zs x) (hl : (t x).leaf = true) : zs = way t n r 0 := by
  obtain ⟨_, pre, e, h⟩ := h
  rw [way_leaf hl] at h
  rw [e, h]
theorem WInv.split {F : Int} {t : Nat → Nd} {n : Nat} {r : Nat → Cl} {zs : List Nat} {x : Nat} (h : WInv t n r zs x) (hm : MayT F t n) (hl : (t x).leaf = false) : WInv t n r (zs ++ [nxt (t x) r]) (nxt (t x) r) := by
  obtain ⟨hx, pre, e, h⟩ := h
  rw [hm.way_split r hx hl] at h
  refine ⟨(hm.nxt hx hl r).1, pre ++ [x], by rw [e], ?_⟩
  rw [← h, List.append_assoc]
  rfl
theorem WInv.len {F : Int} {t : Nat → Nd} {n : Nat} {r : Nat → Cl} {zs : List Nat} {x : Nat} (h : WInv t n r zs x) (hm : MayT F t n) : 1 ≤ zs.length ∧ zs.length ≤ n + 1 := by
  obtain ⟨hx, pre, e, h⟩ := h
  have h1 := hm.way_len r (x := 0) (by omega)
  rw [← h, List.length_append] at h1
  have := List.length_pos_iff.2 (way_ne t n r x)
  rw [e, List.length_append]
  simp
  omega
theorem int_app {B : Nat} {w : World} {g c k m : Nat} {zs ys : List Nat} (hz : zs.length = k) (hy : ys.length = m) (h : w.ownsRow B 3 1 (.slice (some ⟨g, 0, none⟩) (k + m) c) (k + m) (zs.map (fun x : Nat => Value.int .i64 (x : Int)) ++ ys.map (fun x : Nat => Value.int .i64 (x : Int)))) : IntOwn B w (.slice (some ⟨g, 0, none⟩) (k + m) c) (zs ++ ys) := by
  unfold IntOwn
  rw [List.length_append, List.map_append, hz, hy]
  exact h
theorem IntOwn.le {B B' : Nat} {w : World} {v : Value} {zs : List Nat} (h : IntOwn B w v zs) (hb : B' ≤ B) : IntOwn B' w v zs := by
  refine ⟨h.1, ?_⟩
  rcases h.2 with h | ⟨g, c, cur, e, h1, h2⟩
  · exact .inl h
  · exact .inr ⟨g, c, cur, e, Nat.le_trans hb h1, h2⟩
end Go.Proofs.YtjmagcgobhaenaaDoor

namespace Go.Proofs.YtjmagcgobhaenaaDoor
set_option linter.unusedVariables false
set_option linter.unusedSimpArgs false
def kl (t : Nat → Nd) (x : Nat) : Nat := (t x).left.toNat
def kr (t : Nat → Nd) (x : Nat) : Nat := (t x).right.toNat
theorem MayT.kids {F : Int} {t : Nat → Nd} {n : Nat} (h : MayT F t n) {x : Nat} (hx : x < n) (hl : (t x).leaf = false) : (t x).left = (kl t x : Int) ∧ (t x).right = (kr t x : Int) ∧ 1 ≤ kl t x ∧ kl t x < n ∧ 1 ≤ kr t x ∧ kr t x < n ∧ lvl t n (kl t x) = lvl t n x + 1 ∧ lvl t n (kr t x) = lvl t n x + 1 := by
  have hN := h.named x hx hl
  have e1 : (t x).left = (kl t x : Int) := by unfold kl; omega
  have e2 : (t x).right = (kr t x : Int) := by unfold kr; omega
  have a1 : 1 ≤ kl t x := by omega
  have a2 : kl t x < n := by omega
  have a3 : 1 ≤ kr t x := by omega
  have a4 : kr t x < n := by omega
  exact ⟨e1, e2, a1, a2, a3, a4, h.lvl_kid hx a2 a1 ⟨hl, .inl e1⟩, h.lvl_kid hx a4 a3 ⟨hl, .inr e2⟩⟩
theorem MayT.tree_ind {F : Int} {t : Nat → Nd} {n : Nat} (h : MayT F t n) {P : Nat → Prop} (h0 : ∀ x, x < n → (t x).leaf = true → P x) (h1 : ∀ x, x < n → (t x).leaf = false → P (kl t x) → P (kr t x) → P x) : ∀ k x, x < n → n + 1 ≤ lvl t n x + k → P x
  | 0, x, hx, hk => by have := h.lvl_le hx; omega
  | k + 1, x, hx, hk => by
    cases hl : (t x).leaf with
    | true => exact h0 x hx hl
    | false =>
      obtain ⟨_, _, _, a2, _, a4, b1, b2⟩ := h.kids hx hl
      exact h1 x hx hl (h.tree_ind h0 h1 k _ a2 (by omega)) (h.tree_ind h0 h1 k _ a4 (by omega))
theorem MayT.by_tree {F : Int} {t : Nat → Nd} {n : Nat} (h : MayT F t n) {P : Nat → Prop} (h0 : ∀ x, x < n → (t x).leaf = true → P x) (h1 : ∀ x, x < n → (t x).leaf = false → P (kl t x) → P (kr t x) → P x) {x : Nat} (hx : x < n) : P x := h.tree_ind h0 h1 (n + 1) x hx (by omega)
def preN (t : Nat → Nd) : Nat → Nat → List Nat
  | 0, x => [x]
  | k + 1, x => if (t x).leaf = true then [x] else x :: (preN t k (kl t x) ++ preN t k (kr t x))
theorem MayT.pre_more {F : Int} {t : Nat → Nd} {n : Nat} (h : MayT F t n) : ∀ k x, x < n → n + 1 ≤ lvl t n x + k → preN t (k + 1) x = preN t k x
  | 0, x, hx, hk => by have := h.lvl_le hx; omega
  | k + 1, x, hx, hk => by
    show (if (t x).leaf = true then [x] else x :: (preN t (k + 1) (kl t x) ++ preN t (k + 1) (kr t x))) = (if (t x).leaf = true then [x] else x :: (preN t k (kl t x) ++ preN t k (kr t x)))
    cases hl : (t x).leaf with
    | true => rfl
    | false =>
      obtain ⟨_, _, _, a2, _, a4, b1, b2⟩ := h.kids hx hl
      rw [if_neg (by simp), if_neg (by simp), h.pre_more k _ a2 (by omega), h.pre_more k _ a4 (by omega)]
def pre (t : Nat → Nd) (n x : Nat) : List Nat := preN t (n + 1) x
theorem pre_leaf {t : Nat → Nd} {n x : Nat} (hl : (t x).leaf = true) : pre t n x = [x] := by unfold pre; rw [preN, if_pos hl]
theorem MayT.pre_split {F : Int} {t : Nat → Nd} {n : Nat} (h : MayT F t n) {x : Nat} (hx : x < n) (hl : (t x).leaf = false) : pre t n x = x :: (pre t n (kl t x) ++ pre t n (kr t x)) := by
  obtain ⟨_, _, _, a2, _, a4, b1, b2⟩ := h.kids hx hl
  unfold pre
  rw [preN, if_neg (by simp [hl]), h.pre_more n _ a2 (by omega), h.pre_more n _ a4 (by omega)]
def lvs (t : Nat → Nd) (n x : Nat) : List Nat := (pre t n x).filter (fun y => (t y).leaf)
theorem lvs_leaf {t : Nat → Nd} {n x : Nat} (hl : (t x).leaf = true) : lvs t n x = [x] := by unfold lvs; rw [pre_leaf hl]; simp [hl]
theorem MayT.lvs_split {F : Int} {t : Nat → Nd} {n : Nat} (h : MayT F t n) {x : Nat} (hx : x < n) (hl : (t x).leaf = false) : lvs t n x = lvs t n (kl t x) ++ lvs t n (kr t x) := by
  unfold lvs
  rw [h.pre_split hx hl]
  simp [hl]
theorem MayT.count {F : Int} {t : Nat → Nd} {n : Nat} (h : MayT F t n) {x : Nat} (hx : x < n) : 2 * (lvs t n x).length = (pre t n x).length + 1 :=
  h.by_tree (P := fun x => 2 * (lvs t n x).length = (pre t n x).length + 1) (fun x hx hl => by rw [lvs_leaf hl, pre_leaf hl]; rfl) (fun x hx hl a b => by
    rw [h.lvs_split hx hl, h.pre_split hx hl]
    simp only [List.length_append, List.length_cons]
    omega) hx
def covS (t : Nat → Nd) : List Nat → Rat
  | [] => 0
  | x :: l => covS t l + (t x).cov
theorem covS_app (t : Nat → Nd) : ∀ l l', covS t (l ++ l') = covS t l + covS t l'
  | [], l' => by show covS t l' = 0 + covS t l'; rw [Rat.zero_add]
  | x :: l, l' => by
    show covS t (l ++ l') + (t x).cov = covS t l + (t x).cov + covS t l'
    rw [covS_app t l l']
    grind
theorem MayT.covers {F : Int} {t : Nat → Nd} {n : Nat} (h : MayT F t n) {x : Nat} (hx : x < n) : covS t (lvs t n x) = (t x).cov :=
  h.by_tree (P := fun x => covS t (lvs t n x) = (t x).cov) (fun x hx hl => by rw [lvs_leaf hl]; show 0 + (t x).cov = _; rw [Rat.zero_add]) (fun x hx hl a b => by
    rw [h.lvs_split hx hl, covS_app, a, b]
    exact (h.parts x hx hl).symm) hx
def dpN (t : Nat → Nd) : Nat → Nat → Nat
  | 0, _ => 0
  | k + 1, x => if (t x).leaf = true then 0 else max (dpN t k (kl t x)) (dpN t k (kr t x)) + 1
theorem MayT.dp_more {F : Int} {t : Nat → Nd} {n : Nat} (h : MayT F t n) : ∀ k x, x < n → n + 1 ≤ lvl t n x + k → dpN t (k + 1) x = dpN t k x
  | 0, x, hx, hk => by have := h.lvl_le hx; omega
  | k + 1, x, hx, hk => by
    show (if (t x).leaf = true then 0 else max (dpN t (k + 1) (kl t x)) (dpN t (k + 1) (kr t x)) + 1) = (if (t x).leaf = true then 0 else max (dpN t k (kl t x)) (dpN t k (kr t x)) + 1)
    cases hl : (t x).leaf with
    | true => rfl
    | false =>
      obtain ⟨_, _, _, a2, _, a4, b1, b2⟩ := h.kids hx hl
      rw [if_neg (by simp), if_neg (by simp), h.dp_more k _ a2 (by omega), h.dp_more k _ a4 (by omega)]
def dp (t : Nat → Nd) (n x : Nat) : Nat := dpN t (n + 1) x
theorem dp_leaf {t : Nat → Nd} {n x : Nat} (hl : (t x).leaf = true) : dp t n x = 0 := by unfold dp; rw [dpN, if_pos hl]
theorem MayT.dp_split {F : Int} {t : Nat → Nd} {n : Nat} (h : MayT F t n) {x : Nat} (hx : x < n) (hl : (t x).leaf = false) : dp t n x = max (dp t n (kl t x)) (dp t n (kr t x)) + 1 := by
  obtain ⟨_, _, _, a2, _, a4, b1, b2⟩ := h.kids hx hl
  unfold dp
  rw [dpN, if_neg (by simp [hl]), h.dp_more n _ a2 (by omega), h.dp_more n _ a4 (by omega)]
theorem MayT.dp_le {F : Int} {t : Nat → Nd} {n : Nat} (h : MayT F t n) {x : Nat} (hx : x < n) : dp t n x + lvl t n x ≤ n :=
  h.by_tree (P := fun x => dp t n x + lvl t n x ≤ n) (fun x hx hl => by rw [dp_leaf hl]; have := h.lvl_le hx; omega) (fun x hx hl a b => by
    obtain ⟨_, _, _, _, _, _, b1, b2⟩ := h.kids hx hl
    rw [h.dp_split hx hl]
    omega) hx
theorem MayT.dp_max {F : Int} {t : Nat → Nd} {n : Nat} (h : MayT F t n) {x : Nat} (hx : x < n) : (∀ y ∈ pre t n x, lvl t n y ≤ lvl t n x + dp t n x) ∧ ∃ y ∈ pre t n x, lvl t n y = lvl t n x + dp t n x :=
  h.by_tree (P := fun x => (∀ y ∈ pre t n x, lvl t n y ≤ lvl t n x + dp t n x) ∧ ∃ y ∈ pre t n x, lvl t n y = lvl t n x + dp t n x) (fun x hx hl => by
    rw [pre_leaf hl, dp_leaf hl]
    exact ⟨fun y hy => by simp at hy; rw [hy]; exact Nat.le_refl _, x, by simp, rfl⟩) (fun x hx hl a b => by
    obtain ⟨_, _, _, _, _, _, b1, b2⟩ := h.kids hx hl
    rw [h.pre_split hx hl, h.dp_split hx hl]
    refine ⟨fun y hy => ?_, ?_⟩
    · simp only [List.mem_cons, List.mem_append] at hy
      rcases hy with rfl | hy | hy
      · omega
      · have := a.1 y hy; omega
      · have := b.1 y hy; omega
    · obtain ⟨y, hy, ey⟩ := a.2
      obtain ⟨z, hz, ez⟩ := b.2
      by_cases c : dp t n (kr t x) ≤ dp t n (kl t x)
      · exact ⟨y, by simp [hy], by omega⟩
      · exact ⟨z, by simp [hz], by omega⟩) hx
end Go.Proofs.YtjmagcgobhaenaaDoor

namespace Go.Proofs.YtjmagcgobhaenaaDoor
open Go.RowKit
set_option linter.unusedVariables false
set_option linter.unusedSimpArgs false

def VArr (w : World) (g k i : Nat) (q : Nat → Rat) : Prop := ∃ el, Arr3 w g k el ∧ ∀ j, j < i → RepQ w (elv el j) (q j)
theorem VArr.below {w w' : World} {g k i : Nat} {q : Nat → Rat} (h : VArr w g k i q) (hb : Below w.heap.size w w') : VArr w' g k i q := let ⟨el, a, b⟩ := h; ⟨el, a.below hb, fun j hj => (b j hj).below hb⟩
theorem VArr.put {w : World} {g k i : Nat} {q : Nat → Rat} (h : VArr w g k i q) (hi : i < k) {p : Bool} {a b : Option Addr} {n c m d : Nat} (hr : RepQ w (.agg #[.bool p, .slice a n c, .slice b m d]) (q i)) : ∃ u0 u1 u2, w.cell? ⟨g, i * 3, none⟩ = some u0 ∧ w.cell? ⟨g, i * 3 + 1, none⟩ = some u1 ∧ w.cell? ⟨g, i * 3 + 2, none⟩ = some u2 ∧ w.frozen? ⟨g, i * 3, none⟩ = false ∧ w.frozen? ⟨g, i * 3 + 1, none⟩ = false ∧ w.frozen? ⟨g, i * 3 + 2, none⟩ = false ∧
    VArr (((w.setCell ⟨g, i * 3, none⟩ (.bool p)).setCell ⟨g, i * 3 + 1, none⟩ (.slice a n c)).setCell ⟨g, i * 3 + 2, none⟩ (.slice b m d)) g k (i + 1) q := by
  obtain ⟨el, A, R⟩ := h
  obtain ⟨A2, K2⟩ := A.set i hi (.bool p) (.slice a n c) (.slice b m d) (num_bool _) (num_slice _ _ _) (num_slice _ _ _)
  refine ⟨_, _, _, A.1 i hi 0 (by omega), A.1 i hi 1 (by omega), A.1 i hi 2 (by omega), A.2.1 i hi 0 (by omega), A.2.1 i hi 1 (by omega), A.2.1 i hi 2 (by omega), _, A2, fun j hj => ?_⟩
  by_cases e : j = i
  · subst e
    have := hr.keep K2
    simpa [elv, upd3] using this
  · have := (R j (by omega)).keep K2
    simp only [elv, upd3_other el i j _ _ _ e] at *
    exact this
theorem VArr.row {w : World} {g k : Nat} {q : Nat → Rat} (h : VArr w g k k q) (hk : k ≤ 100000) : FRow w (.slice (some ⟨g, 0, none⟩) k k) k q :=
  let ⟨el, a, b⟩ := h; ⟨el, a.row k k (Nat.le_refl _) (Nat.le_refl _) (by omega), b⟩
noncomputable def whyI (F : Int) (k : Nat) (N : Nat → Nat) (T : Nat → Nat → Nd) (nr : Nat) : Int := if mayB F k N T = true then (if (nr : Int) = F then 0 else 14) else 1
theorem whyI_no {F : Int} {k : Nat} {N : Nat → Nat} {T : Nat → Nat → Nd} {nr : Nat} (h : mayB F k N T = false) : whyI F k N T nr = 1 := by unfold whyI; rw [h]; rfl
theorem whyI_len {F : Int} {k : Nat} {N : Nat → Nat} {T : Nat → Nat → Nd} {nr : Nat} (h : mayB F k N T = true) (h2 : ¬ (nr : Int) = F) : whyI F k N T nr = 14 := by unfold whyI; rw [if_pos h, if_neg h2]
theorem whyI_yes {F : Int} {k : Nat} {N : Nat → Nat} {T : Nat → Nat → Nd} {nr : Nat} (h : mayB F k N T = true) (h2 : (nr : Int) = F) : whyI F k N T nr = 0 := by unfold whyI; rw [if_pos h, if_pos h2]
theorem leafV_sz {w : World} {v : Value} {k : Nat} {N : Nat → Nat} {T : Nat → Nat → Nd} {L : Nat} {F : Int} (h : MRow w v k N T L) (hL : 1 ≤ L) (hm : ∀ i, i < k → MayT F (T i) (N i)) (r : Nat → Cl) : ∀ i, i < k → qsz (leafV T N r i) ≤ L := by
  intro i hi
  obtain ⟨b, off, c, a, d, _, _, _, TR⟩ := h.at hi
  have hp := (hm i hi).pos
  have hw := (hm i hi).wlast_is r (x := 0) (by omega)
  obtain ⟨_, _, _, _, _, _, _, _, _, _, _, _, _, _, _, _, _, _, _, _, _, _, _, _, _, _, _, _, _, r2, _⟩ := TR.at hw.1
  exact r2.qsz hL

structure Cel10 (w : World) (b o : Nat) (x : Value) : Prop where
  cell : w.cell? ⟨b, o, none⟩ = some x
theorem Cel10.lt {w : World} {b o : Nat} {x : Value} (h : Cel10 w b o x) : b < w.heap.size := World.block_lt_of_cell? _ _ h.cell
theorem Cel10.below {w w' : World} {b o : Nat} {x : Value} (h : Cel10 w b o x) (hb : Below w.heap.size w w') : Cel10 w' b o x := ⟨(hb.cell (p := ⟨b, o, none⟩) h.lt).trans h.cell⟩
theorem Cel10.from {B : Nat} {w w' : World} {b o : Nat} {x : Value} (h : w.cell? ⟨b, o, none⟩ = some x) (hb : Below w.heap.size w w') : Cel10 w' b o x := ⟨(hb.cell (p := ⟨b, o, none⟩) (World.block_lt_of_cell? _ _ h)).trans h⟩
theorem Cel10.other3 {w : World} {b o R : Nat} {x : Value} (h : Cel10 w b o x) (hne : b ≠ R) (u0 u1 u2 : Value) : Cel10 (((w.setCell ⟨R, 0, none⟩ u0).setCell ⟨R, 1, none⟩ u1).setCell ⟨R, 2, none⟩ u2) b o x :=
  ⟨by rw [World.cell?_setCell_other _ _ _ _ (fun e => by injection e; omega), World.cell?_setCell_other _ _ _ _ (fun e => by injection e; omega), World.cell?_setCell_other _ _ _ _ (fun e => by injection e; omega)]; exact h.cell⟩
theorem int_lastcell {B : Nat} {w : World} {v : Value} {zs : List Nat} (h : IntOwn B w v zs) (hne : zs ≠ []) : ∃ g c k, v = .slice (some ⟨g, 0, none⟩) (k + 1) c ∧ B ≤ g ∧ k + 1 = zs.length ∧ w.cell? ⟨g, k, none⟩ = some (.int .i64 ((zs.getLastD 0 : Nat) : Int)) := by
  obtain ⟨g, c, rfl, hc⟩ := h.open (List.length_pos_iff.2 hne)
  rcases List.eq_nil_or_concat zs with rfl | ⟨ws, i, rfl⟩
  · exact absurd rfl hne
  rw [List.concat_eq_append] at *
  have hl : (ws ++ [i]).length = ws.length + 1 := by simp
  have := h.cell rfl (j := ws.length) (x := i) (by simp)
  refine ⟨g, c, ws.length, by rw [hl], (h.both g rfl).1, hl.symm, ?_⟩
  rw [this]
  simp
end Go.Proofs.YtjmagcgobhaenaaDoor
