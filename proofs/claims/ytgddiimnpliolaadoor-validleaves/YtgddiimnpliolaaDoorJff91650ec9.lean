/-
  Texts of mine, joined: what lies beneath the statement.
-/
import Derived.Test.YtgddiimnpliolaaDoorJ57d3204701
import Derived.Test.YtgddiimnpliolaaDoorJ4336de308b
import Derived.Test.YtgddiimnpliolaaDoorJ61fc974cfb
namespace Go.Proofs.YtgddiimnpliolaaDoor
open Go.RowKit
set_option linter.unusedVariables false
set_option linter.unusedSimpArgs false
def rpV (e : Int) : Option Nat → Value
  | none => .tuple #[.int .i64 (-1), .int .i64 0]
  | some i => .tuple #[.int .i64 (i : Int), .int .i64 e]
theorem rpV_some {p : Nat → Bool} {n i : Nat} {e : Int} (hi : i < n) (h : ∀ j, j < i → p j = false) (hp : p i = true) : rpV e (fb p n) = .tuple #[.int .i64 (i : Int), .int .i64 e] := by rw [fb_some hi h hp]; rfl
theorem rpV_none {p : Nat → Bool} {n : Nat} {e : Int} (h : ∀ j, j < n → p j = false) : rpV e (fb p n) = .tuple #[.int .i64 (-1), .int .i64 0] := by rw [fb_none h]; rfl
set_option maxRecDepth 100000 in
set_option maxHeartbeats 8000000 in
theorem lrule0_at (v : Value) (n : Nat) (t : Nat → Nd) (F : Int) (L : Nat) (w : World) (hv : TRow w v n t L) (hn : n ≤ 255) :
    Calls Tryd.prog 23 #[v, .int .i64 F, .int .i64 0] w fun e w' => e = .returned (rpV 8 (fb (bad0 F t n) n)) ∧ Below w.heap.size w w' := by
  obtain ⟨ao, c, rfl, hnc, hc63⟩ := hv.open
  have BB : Below w.heap.size w w := Below.refl _ _
  go_enter Tryd.func23, Tryd.ntmps23
  go_wp2
  go_loopw [8] (fun vi wr => ∃ i : Nat, i ≤ n ∧ vi = .int .i64 (i : Int) ∧ Hid (∀ j, j < i → (bad0 F t n) j = false) ∧ Below w.heap.size w wr) (fun vi _ => n - (intOf vi).toNat)
  case atStart => exact ⟨0, by omega, rfl, fun j hj => by omega, BB⟩
  case round =>
    clear BB
    obtain ⟨i, hi, rfl, HB, BB⟩ := hrel
    by_cases hlt : i < n
    · have g1 : (i : Int) < (n : Int) := by omega
      have g0 : (0 : Int) ≤ (i : Int) := by omega
      have hv1 := hv.below BB
      obtain ⟨b, off, cc, p1, a1, n1, c1, b1, m1, d1, p2, a2, n2, c2, b2, m2, d2, p3, a3, n3, c3, b3, m3, d3, hvv, hcc, hc6, NN, r1, r2, r3, i1, i2, i3⟩ := hv1.at hlt
      cases hvv
      clear hv1 r1 r2 r3 i1 i2 i3
      have HP : Hid (bad0 F t n i = (!(t i).leaf && (decide ((t i).feat ≥ F) || decide ((t i).left < 1) || decide ((t i).left ≥ (n : Int)) || decide ((t i).right < 1) || decide ((t i).right ≥ (n : Int))))) := rfl
      obtain ⟨lf, hlf⟩ : ∃ z, (t i).leaf = z := ⟨_, rfl⟩
      obtain ⟨ft, hft⟩ : ∃ z, (t i).feat = z := ⟨_, rfl⟩
      obtain ⟨ll, hll⟩ : ∃ z, (t i).left = z := ⟨_, rfl⟩
      obtain ⟨rr, hrr⟩ : ∃ z, (t i).right = z := ⟨_, rfl⟩
      rw [hlf, hft, hll, hrr] at HP NN
      clear hlf hft hll hrr
      generalize (t i).miss = ms at NN
      cases lf
      · by_cases h1 : ft ≥ F
        · have h1b : decide (ft ≥ F) = true := decide_eq_true h1
          obtain ⟨N_0, N_1, N_2, N_3, N_4, N_5, N_6, N_7, N_8, N_9, N_10, N_11, N_12, N_13⟩ := id NN
          obtain ⟨W1, rfl, hS1, hL1, VN, FN⟩ := V14.lay wr 44 (.bool false) (.int .i64 ft) (.bool p1) (.slice a1 n1 c1) (.slice b1 m1 d1) (.int .i64 ll) (.int .i64 rr) (.bool ms) (.bool p2) (.slice a2 n2 c2) (.slice b2 m2 d2) (.bool p3) (.slice a3 n3 c3) (.slice b3 m3 d3)
          replace BB := BB.trans (hL1.mono BB.size)
          obtain ⟨V_0, V_1, V_2, V_3, V_4, V_5, V_6, V_7, V_8, V_9, V_10, V_11, V_12, V_13⟩ := id VN
          have hbad : bad0 F t n i = true := by rw [HP.out, h1b]; simp
          clear HP
          have HR : Hid (rpV 8 (fb (bad0 F t n) n) = .tuple #[.int .i64 (i : Int), .int .i64 8]) := rpV_some hlt HB.out hbad
          clear HB
          go_wp2
          go_ret2
          exact ⟨congrArg Ending.returned HR.out.symm, BB⟩
        · have h1b : decide (ft ≥ F) = false := decide_eq_false h1
          by_cases h2 : ll < 1
          · have h2b : decide (ll < 1) = true := decide_eq_true h2
            obtain ⟨N_0, N_1, N_2, N_3, N_4, N_5, N_6, N_7, N_8, N_9, N_10, N_11, N_12, N_13⟩ := id NN
            obtain ⟨W1, rfl, hS1, hL1, VN, FN⟩ := V14.lay wr 44 (.bool false) (.int .i64 ft) (.bool p1) (.slice a1 n1 c1) (.slice b1 m1 d1) (.int .i64 ll) (.int .i64 rr) (.bool ms) (.bool p2) (.slice a2 n2 c2) (.slice b2 m2 d2) (.bool p3) (.slice a3 n3 c3) (.slice b3 m3 d3)
            replace BB := BB.trans (hL1.mono BB.size)
            obtain ⟨V_0, V_1, V_2, V_3, V_4, V_5, V_6, V_7, V_8, V_9, V_10, V_11, V_12, V_13⟩ := id VN
            have hbad : bad0 F t n i = true := by rw [HP.out, h1b, h2b]; simp
            clear HP
            have HR : Hid (rpV 8 (fb (bad0 F t n) n) = .tuple #[.int .i64 (i : Int), .int .i64 8]) := rpV_some hlt HB.out hbad
            clear HB
            go_wp2
            go_ret2
            exact ⟨congrArg Ending.returned HR.out.symm, BB⟩
          · have h2b : decide (ll < 1) = false := decide_eq_false h2
            by_cases h3 : ll ≥ (n : Int)
            · have h3b : decide (ll ≥ (n : Int)) = true := decide_eq_true h3
              obtain ⟨N_0, N_1, N_2, N_3, N_4, N_5, N_6, N_7, N_8, N_9, N_10, N_11, N_12, N_13⟩ := id NN
              obtain ⟨W1, rfl, hS1, hL1, VN, FN⟩ := V14.lay wr 44 (.bool false) (.int .i64 ft) (.bool p1) (.slice a1 n1 c1) (.slice b1 m1 d1) (.int .i64 ll) (.int .i64 rr) (.bool ms) (.bool p2) (.slice a2 n2 c2) (.slice b2 m2 d2) (.bool p3) (.slice a3 n3 c3) (.slice b3 m3 d3)
              replace BB := BB.trans (hL1.mono BB.size)
              obtain ⟨V_0, V_1, V_2, V_3, V_4, V_5, V_6, V_7, V_8, V_9, V_10, V_11, V_12, V_13⟩ := id VN
              have hbad : bad0 F t n i = true := by rw [HP.out, h1b, h2b, h3b]; simp
              clear HP
              have HR : Hid (rpV 8 (fb (bad0 F t n) n) = .tuple #[.int .i64 (i : Int), .int .i64 8]) := rpV_some hlt HB.out hbad
              clear HB
              go_wp2
              go_ret2
              exact ⟨congrArg Ending.returned HR.out.symm, BB⟩
            · have h3b : decide (ll ≥ (n : Int)) = false := decide_eq_false h3
              by_cases h4 : rr < 1
              · have h4b : decide (rr < 1) = true := decide_eq_true h4
                obtain ⟨N_0, N_1, N_2, N_3, N_4, N_5, N_6, N_7, N_8, N_9, N_10, N_11, N_12, N_13⟩ := id NN
                obtain ⟨W1, rfl, hS1, hL1, VN, FN⟩ := V14.lay wr 44 (.bool false) (.int .i64 ft) (.bool p1) (.slice a1 n1 c1) (.slice b1 m1 d1) (.int .i64 ll) (.int .i64 rr) (.bool ms) (.bool p2) (.slice a2 n2 c2) (.slice b2 m2 d2) (.bool p3) (.slice a3 n3 c3) (.slice b3 m3 d3)
                replace BB := BB.trans (hL1.mono BB.size)
                obtain ⟨V_0, V_1, V_2, V_3, V_4, V_5, V_6, V_7, V_8, V_9, V_10, V_11, V_12, V_13⟩ := id VN
                have hbad : bad0 F t n i = true := by rw [HP.out, h1b, h2b, h3b, h4b]; simp
                clear HP
                have HR : Hid (rpV 8 (fb (bad0 F t n) n) = .tuple #[.int .i64 (i : Int), .int .i64 8]) := rpV_some hlt HB.out hbad
                clear HB
                go_wp2
                go_ret2
                exact ⟨congrArg Ending.returned HR.out.symm, BB⟩
              · have h4b : decide (rr < 1) = false := decide_eq_false h4
                by_cases h5 : rr ≥ (n : Int)
                · have h5b : decide (rr ≥ (n : Int)) = true := decide_eq_true h5
                  obtain ⟨N_0, N_1, N_2, N_3, N_4, N_5, N_6, N_7, N_8, N_9, N_10, N_11, N_12, N_13⟩ := id NN
                  obtain ⟨W1, rfl, hS1, hL1, VN, FN⟩ := V14.lay wr 44 (.bool false) (.int .i64 ft) (.bool p1) (.slice a1 n1 c1) (.slice b1 m1 d1) (.int .i64 ll) (.int .i64 rr) (.bool ms) (.bool p2) (.slice a2 n2 c2) (.slice b2 m2 d2) (.bool p3) (.slice a3 n3 c3) (.slice b3 m3 d3)
                  replace BB := BB.trans (hL1.mono BB.size)
                  obtain ⟨V_0, V_1, V_2, V_3, V_4, V_5, V_6, V_7, V_8, V_9, V_10, V_11, V_12, V_13⟩ := id VN
                  have hbad : bad0 F t n i = true := by rw [HP.out, h1b, h2b, h3b, h4b, h5b]; simp
                  clear HP
                  have HR : Hid (rpV 8 (fb (bad0 F t n) n) = .tuple #[.int .i64 (i : Int), .int .i64 8]) := rpV_some hlt HB.out hbad
                  clear HB
                  go_wp2
                  go_ret2
                  exact ⟨congrArg Ending.returned HR.out.symm, BB⟩
                · have h5b : decide (rr ≥ (n : Int)) = false := decide_eq_false h5
                  obtain ⟨N_0, N_1, N_2, N_3, N_4, N_5, N_6, N_7, N_8, N_9, N_10, N_11, N_12, N_13⟩ := id NN
                  obtain ⟨W1, rfl, hS1, hL1, VN, FN⟩ := V14.lay wr 44 (.bool false) (.int .i64 ft) (.bool p1) (.slice a1 n1 c1) (.slice b1 m1 d1) (.int .i64 ll) (.int .i64 rr) (.bool ms) (.bool p2) (.slice a2 n2 c2) (.slice b2 m2 d2) (.bool p3) (.slice a3 n3 c3) (.slice b3 m3 d3)
                  replace BB := BB.trans (hL1.mono BB.size)
                  obtain ⟨V_0, V_1, V_2, V_3, V_4, V_5, V_6, V_7, V_8, V_9, V_10, V_11, V_12, V_13⟩ := id VN
                  have hbad : bad0 F t n i = false := by rw [HP.out, h1b, h2b, h3b, h4b, h5b]; rfl
                  clear HP
                  have HB2 : Hid (∀ j, j < i + 1 → (bad0 F t n) j = false) := fun j hj => by
                    by_cases e : j = i
                    · subst e; exact hbad
                    · exact HB.out j (by omega)
                  clear HB
                  go_wp2
                  go_roundw
                  case rel => exact ⟨i + 1, by omega, by go_num, HB2, BB⟩
                  case measure => simp [intOf]; omega
      · obtain ⟨N_0, N_1, N_2, N_3, N_4, N_5, N_6, N_7, N_8, N_9, N_10, N_11, N_12, N_13⟩ := id NN
        obtain ⟨W1, rfl, hS1, hL1, VN, FN⟩ := V14.lay wr 44 (.bool true) (.int .i64 ft) (.bool p1) (.slice a1 n1 c1) (.slice b1 m1 d1) (.int .i64 ll) (.int .i64 rr) (.bool ms) (.bool p2) (.slice a2 n2 c2) (.slice b2 m2 d2) (.bool p3) (.slice a3 n3 c3) (.slice b3 m3 d3)
        replace BB := BB.trans (hL1.mono BB.size)
        obtain ⟨V_0, V_1, V_2, V_3, V_4, V_5, V_6, V_7, V_8, V_9, V_10, V_11, V_12, V_13⟩ := id VN
        have hbad : bad0 F t n i = false := by rw [HP.out]; rfl
        clear HP
        have HB2 : Hid (∀ j, j < i + 1 → (bad0 F t n) j = false) := fun j hj => by
          by_cases e : j = i
          · subst e; exact hbad
          · exact HB.out j (by omega)
        clear HB
        go_wp2
        go_roundw
        case rel => exact ⟨i + 1, by omega, by go_num, HB2, BB⟩
        case measure => simp [intOf]; omega
    · obtain rfl : i = n := by omega
      have g1 : ¬ (i : Int) < (i : Int) := by omega
      have HR : Hid (rpV 8 (fb (bad0 F t i) i) = .tuple #[.int .i64 (-1), .int .i64 0]) := rpV_none HB.out
      go_wp2
      go_ret2
      exact ⟨congrArg Ending.returned HR.out.symm, BB⟩
set_option maxRecDepth 100000 in
set_option maxHeartbeats 8000000 in
theorem lrule1_at (v : Value) (n : Nat) (t : Nat → Nd) (F : Int) (L : Nat) (w : World) (hv : TRow w v n t L) (hn : n ≤ 255) :
    Calls Tryd.prog 23 #[v, .int .i64 F, .int .i64 1] w fun e w' => e = .returned (rpV 11 (fb (bad1 t n) n)) ∧ Below w.heap.size w w' := by
  obtain ⟨ao, c, rfl, hnc, hc63⟩ := hv.open
  have BB : Below w.heap.size w w := Below.refl _ _
  go_enter Tryd.func23, Tryd.ntmps23
  go_wp2
  go_loopw [8] (fun vi wr => ∃ i : Nat, i ≤ n ∧ vi = .int .i64 (i : Int) ∧ Hid (∀ j, j < i → (bad1 t n) j = false) ∧ Below w.heap.size w wr) (fun vi _ => n - (intOf vi).toNat)
  case atStart => exact ⟨0, by omega, rfl, fun j hj => by omega, BB⟩
  case round =>
    clear BB
    obtain ⟨i, hi, rfl, HB, BB⟩ := hrel
    by_cases hlt : i < n
    · have g1 : (i : Int) < (n : Int) := by omega
      have g0 : (0 : Int) ≤ (i : Int) := by omega
      have hv1 := hv.below BB
      obtain ⟨b, off, cc, p1, a1, n1, c1, b1, m1, d1, p2, a2, n2, c2, b2, m2, d2, p3, a3, n3, c3, b3, m3, d3, hvv, hcc, hc6, NN, r1, r2, r3, i1, i2, i3⟩ := hv1.at hlt
      cases hvv
      clear r1 r2 r3 i1 i2 i3
      have HP : Hid (bad1 t n i = (decide (1 ≤ i) && decide (par t i n ≠ 1))) := rfl
      by_cases hi0 : i = 0
      · have hbad : bad1 t n i = false := by rw [HP.out, decide_eq_false (show ¬ 1 ≤ i by omega)]; rfl
        have h0 : ¬ (i : Int) > 0 := by omega
        have h0b : decide ((i : Int) > 0) = false := decide_eq_false h0
        have h0n : ¬ 0 < i := by omega
        have HI0 : Hid (i = 0) := hi0
        clear hi0 HP hv1
        obtain ⟨N_0, N_1, N_2, N_3, N_4, N_5, N_6, N_7, N_8, N_9, N_10, N_11, N_12, N_13⟩ := id NN
        obtain ⟨W1, rfl, hS1, hL1, VN, FN⟩ := V14.lay wr 44 (.bool (t i).leaf) (.int .i64 (t i).feat) (.bool p1) (.slice a1 n1 c1) (.slice b1 m1 d1) (.int .i64 (t i).left) (.int .i64 (t i).right) (.bool (t i).miss) (.bool p2) (.slice a2 n2 c2) (.slice b2 m2 d2) (.bool p3) (.slice a3 n3 c3) (.slice b3 m3 d3)
        replace BB := BB.trans (hL1.mono BB.size)
        obtain ⟨V_0, V_1, V_2, V_3, V_4, V_5, V_6, V_7, V_8, V_9, V_10, V_11, V_12, V_13⟩ := id VN
        have HB2 : Hid (∀ j, j < i + 1 → (bad1 t n) j = false) := fun j hj => by
          by_cases e : j = i
          · subst e; exact hbad
          · exact HB.out j (by omega)
        clear HB
        go_wp2
        go_roundw
        case rel => exact ⟨i + 1, by omega, by go_num, HB2, BB⟩
        case measure => simp [intOf]; omega
      · have h0 : (i : Int) > 0 := by omega
        have h0b : decide ((i : Int) > 0) = true := decide_eq_true h0
        obtain ⟨N_0, N_1, N_2, N_3, N_4, N_5, N_6, N_7, N_8, N_9, N_10, N_11, N_12, N_13⟩ := id NN
        obtain ⟨W1, hW1, hS1, hL1, VN, FN⟩ := V14.lay wr 44 (.bool (t i).leaf) (.int .i64 (t i).feat) (.bool p1) (.slice a1 n1 c1) (.slice b1 m1 d1) (.int .i64 (t i).left) (.int .i64 (t i).right) (.bool (t i).miss) (.bool p2) (.slice a2 n2 c2) (.slice b2 m2 d2) (.bool p3) (.slice a3 n3 c3) (.slice b3 m3 d3)
        replace hv1 := hv1.below hL1
        replace BB := BB.trans (hL1.mono BB.size)
        clear hL1
        obtain ⟨V_0, V_1, V_2, V_3, V_4, V_5, V_6, V_7, V_8, V_9, V_10, V_11, V_12, V_13⟩ := id VN
        rw [hW1] at V_0 V_1 V_2 V_3 V_4 V_5 V_6 V_7 V_8 V_9 V_10 V_11 V_12 V_13
        go_wp2_with fail
        clear V_0 V_1 V_2 V_3 V_4 V_5 V_6 V_7 V_8 V_9 V_10 V_11 V_12 V_13
        clear N_0 N_1 N_2 N_3 N_4 N_5 N_6 N_7 N_8 N_9 N_10 N_11 N_12 N_13
        rw [← hW1]
        generalize wr.heap.size = R1 at *
        clear hW1 hS1
        refine (lparents_at _ n i t L _ hv1 hn).mono ?_
        rintro e w1 ⟨rfl, b1⟩
        replace hv1 := hv1.below b1
        replace BB := BB.trans (b1.mono BB.size)
        clear b1
        have hpb := par_le t i n
        by_cases hp : par t i n = 1
        · have hbad : bad1 t n i = false := by rw [HP.out, hp]; simp
          clear HP
          rw [hp]
          have HPP : Hid (par t i n = 1) := hp
          clear hp
          have HB2 : Hid (∀ j, j < i + 1 → (bad1 t n) j = false) := fun j hj => by
            by_cases e : j = i
            · subst e; exact hbad
            · exact HB.out j (by omega)
          clear HB
          go_wp2
          go_roundw
          case rel => exact ⟨i + 1, by omega, by go_num, HB2, BB⟩
          case measure => simp [intOf]; omega
        · have hbad : bad1 t n i = true := by rw [HP.out, decide_eq_true hp, decide_eq_true (show 1 ≤ i by omega)]; rfl
          clear HP
          have hpi : ¬ ((par t i n : Nat) : Int) = 1 := by omega
          have hpb2 : (((par t i n : Nat) : Int) != 1) = true := by simp; omega
          have HR : Hid (rpV 11 (fb (bad1 t n) n) = .tuple #[.int .i64 (i : Int), .int .i64 11]) := rpV_some hlt HB.out hbad
          clear HB
          go_wp2
          go_ret2
          exact ⟨congrArg Ending.returned HR.out.symm, BB⟩
    · obtain rfl : i = n := by omega
      have g1 : ¬ (i : Int) < (i : Int) := by omega
      have HR : Hid (rpV 11 (fb (bad1 t i) i) = .tuple #[.int .i64 (-1), .int .i64 0]) := rpV_none HB.out
      go_wp2
      go_ret2
      exact ⟨congrArg Ending.returned HR.out.symm, BB⟩
set_option maxRecDepth 100000 in
set_option maxHeartbeats 8000000 in
theorem lrule2_at (v : Value) (n : Nat) (t : Nat → Nd) (F : Int) (L : Nat) (w : World) (hv : TRow w v n t L) (hn : n ≤ 255) :
    Calls Tryd.prog 23 #[v, .int .i64 F, .int .i64 2] w fun e w' => e = .returned (rpV 11 (fb (bad2 t n) n)) ∧ Below w.heap.size w w' := by
  obtain ⟨ao, c, rfl, hnc, hc63⟩ := hv.open
  have BB : Below w.heap.size w w := Below.refl _ _
  go_enter Tryd.func23, Tryd.ntmps23
  go_wp2
  go_loopw [8] (fun vi wr => ∃ i : Nat, i ≤ n ∧ vi = .int .i64 (i : Int) ∧ Hid (∀ j, j < i → (bad2 t n) j = false) ∧ Below w.heap.size w wr) (fun vi _ => n - (intOf vi).toNat)
  case atStart => exact ⟨0, by omega, rfl, fun j hj => by omega, BB⟩
  case round =>
    clear BB
    obtain ⟨i, hi, rfl, HB, BB⟩ := hrel
    by_cases hlt : i < n
    · have g1 : (i : Int) < (n : Int) := by omega
      have g0 : (0 : Int) ≤ (i : Int) := by omega
      have hv1 := hv.below BB
      obtain ⟨b, off, cc, p1, a1, n1, c1, b1, m1, d1, p2, a2, n2, c2, b2, m2, d2, p3, a3, n3, c3, b3, m3, d3, hvv, hcc, hc6, NN, r1, r2, r3, i1, i2, i3⟩ := hv1.at hlt
      cases hvv
      clear r1 r2 r3 i1 i2 i3
      have HP : Hid (bad2 t n i = !lawUp t n (n + 1) i) := rfl
      obtain ⟨N_0, N_1, N_2, N_3, N_4, N_5, N_6, N_7, N_8, N_9, N_10, N_11, N_12, N_13⟩ := id NN
      obtain ⟨W1, hW1, hS1, hL1, VN, FN⟩ := V14.lay wr 44 (.bool (t i).leaf) (.int .i64 (t i).feat) (.bool p1) (.slice a1 n1 c1) (.slice b1 m1 d1) (.int .i64 (t i).left) (.int .i64 (t i).right) (.bool (t i).miss) (.bool p2) (.slice a2 n2 c2) (.slice b2 m2 d2) (.bool p3) (.slice a3 n3 c3) (.slice b3 m3 d3)
      replace hv1 := hv1.below hL1
      replace BB := BB.trans (hL1.mono BB.size)
      clear hL1
      obtain ⟨V_0, V_1, V_2, V_3, V_4, V_5, V_6, V_7, V_8, V_9, V_10, V_11, V_12, V_13⟩ := id VN
      rw [hW1] at V_0 V_1 V_2 V_3 V_4 V_5 V_6 V_7 V_8 V_9 V_10 V_11 V_12 V_13
      go_wp2_with fail
      clear V_0 V_1 V_2 V_3 V_4 V_5 V_6 V_7 V_8 V_9 V_10 V_11 V_12 V_13
      clear N_0 N_1 N_2 N_3 N_4 N_5 N_6 N_7 N_8 N_9 N_10 N_11 N_12 N_13
      rw [← hW1]
      generalize wr.heap.size = R1 at *
      clear hW1 hS1
      refine (lreached_at _ n i t L _ hv1 hn hlt).mono ?_
      rintro e w1 ⟨rfl, b1⟩
      replace hv1 := hv1.below b1
      replace BB := BB.trans (b1.mono BB.size)
      clear b1
      obtain ⟨lu, hlu⟩ : ∃ z, lawUp t n (n + 1) i = z := ⟨_, rfl⟩
      rw [hlu] at HP ⊢
      clear hlu
      cases lu
      · have hbad : bad2 t n i = true := by rw [HP.out]; rfl
        clear HP
        have HR : Hid (rpV 11 (fb (bad2 t n) n) = .tuple #[.int .i64 (i : Int), .int .i64 11]) := rpV_some hlt HB.out hbad
        clear HB
        go_wp2
        go_ret2
        exact ⟨congrArg Ending.returned HR.out.symm, BB⟩
      · have hbad : bad2 t n i = false := by rw [HP.out]; rfl
        clear HP
        have HB2 : Hid (∀ j, j < i + 1 → (bad2 t n) j = false) := fun j hj => by
          by_cases e : j = i
          · subst e; exact hbad
          · exact HB.out j (by omega)
        clear HB
        go_wp2
        go_roundw
        case rel => exact ⟨i + 1, by omega, by go_num, HB2, BB⟩
        case measure => simp [intOf]; omega
    · obtain rfl : i = n := by omega
      have g1 : ¬ (i : Int) < (i : Int) := by omega
      have HR : Hid (rpV 11 (fb (bad2 t i) i) = .tuple #[.int .i64 (-1), .int .i64 0]) := rpV_none HB.out
      go_wp2
      go_ret2
      exact ⟨congrArg Ending.returned HR.out.symm, BB⟩
set_option maxRecDepth 100000 in
set_option maxHeartbeats 8000000 in
theorem lrule3_at (v : Value) (n : Nat) (t : Nat → Nd) (F : Int) (L : Nat) (w : World) (hv : TRow w v n t L) (hn : n ≤ 255) (hL : 1 ≤ L) (hLM : L ≤ 100000) :
    Calls Tryd.prog 23 #[v, .int .i64 F, .int .i64 3] w fun e w' => e = .returned (rpV 12 (fb (bad3 t) n)) ∧ Below w.heap.size w w' := by
  obtain ⟨ao, c, rfl, hnc, hc63⟩ := hv.open
  have BB : Below w.heap.size w w := Below.refl _ _
  go_enter Tryd.func23, Tryd.ntmps23
  go_wp2
  go_loopw [8] (fun vi wr => ∃ i : Nat, i ≤ n ∧ vi = .int .i64 (i : Int) ∧ Hid (∀ j, j < i → (bad3 t) j = false) ∧ Below w.heap.size w wr) (fun vi _ => n - (intOf vi).toNat)
  case atStart => exact ⟨0, by omega, rfl, fun j hj => by omega, BB⟩
  case round =>
    clear BB
    obtain ⟨i, hi, rfl, HB, BB⟩ := hrel
    by_cases hlt : i < n
    · have g1 : (i : Int) < (n : Int) := by omega
      have g0 : (0 : Int) ≤ (i : Int) := by omega
      have hv1 := hv.below BB
      obtain ⟨b, off, cc, p1, a1, n1, c1, b1, m1, d1, p2, a2, n2, c2, b2, m2, d2, p3, a3, n3, c3, b3, m3, d3, hvv, hcc, hc6, NN, r1, r2, r3, i1, i2, i3⟩ := hv1.at hlt
      cases hvv
      clear hv1 r1 r2 i1 i2 i3
      have HP : Hid (bad3 t i = decide ((t i).cov ≤ 0)) := rfl
      obtain ⟨N_0, N_1, N_2, N_3, N_4, N_5, N_6, N_7, N_8, N_9, N_10, N_11, N_12, N_13⟩ := id NN
      obtain ⟨W1, hW1, hS1, hL1, VN, FN⟩ := V14.lay wr 44 (.bool (t i).leaf) (.int .i64 (t i).feat) (.bool p1) (.slice a1 n1 c1) (.slice b1 m1 d1) (.int .i64 (t i).left) (.int .i64 (t i).right) (.bool (t i).miss) (.bool p2) (.slice a2 n2 c2) (.slice b2 m2 d2) (.bool p3) (.slice a3 n3 c3) (.slice b3 m3 d3)
      replace r3 := r3.below hL1
      replace BB := BB.trans (hL1.mono BB.size)
      clear hL1
      obtain ⟨V_0, V_1, V_2, V_3, V_4, V_5, V_6, V_7, V_8, V_9, V_10, V_11, V_12, V_13⟩ := id VN
      rw [hW1] at V_0 V_1 V_2 V_3 V_4 V_5 V_6 V_7 V_8 V_9 V_10 V_11 V_12 V_13
      go_wp2_with fail
      clear V_0 V_1 V_2 V_3 V_4 V_5 V_6 V_7 V_8 V_9 V_10 V_11 V_12 V_13
      clear N_0 N_1 N_2 N_3 N_4 N_5 N_6 N_7 N_8 N_9 N_10 N_11 N_12 N_13
      rw [← hW1]
      generalize wr.heap.size = R1 at *
      clear hW1 hS1
      refine (qsign_at _ (t i).cov L _ r3 hL hLM).mono ?_
      rintro e w1 ⟨rfl, b1⟩
      replace r3 := r3.below b1
      replace BB := BB.trans (b1.mono BB.size)
      clear b1
      have hcq := cmpQ_le (t i).cov 0
      obtain ⟨cq, hq⟩ : ∃ z, cmpQ (t i).cov 0 = z := ⟨_, rfl⟩
      rw [hq] at hcq
      rw [hq]
      have HCQ : Hid (decide (cq ≤ 0) = decide ((t i).cov ≤ 0)) := hcq
      clear hq hcq
      by_cases hc : cq ≤ 0
      · have hcb : decide (cq ≤ 0) = true := decide_eq_true hc
        have hbad : bad3 t i = true := by rw [HP.out, ← HCQ.out]; exact hcb
        clear HP HCQ
        have HR : Hid (rpV 12 (fb (bad3 t) n) = .tuple #[.int .i64 (i : Int), .int .i64 12]) := rpV_some hlt HB.out hbad
        clear HB
        go_wp2
        go_ret2
        exact ⟨congrArg Ending.returned HR.out.symm, BB⟩
      · have hcb : decide (cq ≤ 0) = false := decide_eq_false hc
        have hbad : bad3 t i = false := by rw [HP.out, ← HCQ.out]; exact hcb
        clear HP HCQ
        have HB2 : Hid (∀ j, j < i + 1 → (bad3 t) j = false) := fun j hj => by
          by_cases e : j = i
          · subst e; exact hbad
          · exact HB.out j (by omega)
        clear HB
        go_wp2
        go_roundw
        case rel => exact ⟨i + 1, by omega, by go_num, HB2, BB⟩
        case measure => simp [intOf]; omega
    · obtain rfl : i = n := by omega
      have g1 : ¬ (i : Int) < (i : Int) := by omega
      have HR : Hid (rpV 12 (fb (bad3 t) i) = .tuple #[.int .i64 (-1), .int .i64 0]) := rpV_none HB.out
      go_wp2
      go_ret2
      exact ⟨congrArg Ending.returned HR.out.symm, BB⟩
set_option maxRecDepth 100000 in
set_option maxHeartbeats 8000000 in
theorem lrule4_at (v : Value) (n : Nat) (t : Nat → Nd) (F : Int) (L : Nat) (w : World) (hv : TRow w v n t L) (hn : n ≤ 255) (ht : Tab w) (hN : Named t n) (hL : 1 ≤ L) (hLM : L ≤ 30000) :
    Calls Tryd.prog 23 #[v, .int .i64 F, .int .i64 4] w fun e w' => e = .returned (rpV 13 (fb (bad4 t) n)) ∧ Below w.heap.size w w' := by
  obtain ⟨ao, c, rfl, hnc, hc63⟩ := hv.open
  have HN : Hid (Named t n) := hN
  clear hN
  have BB : Below w.heap.size w w := Below.refl _ _
  go_enter Tryd.func23, Tryd.ntmps23
  go_wp2
  go_loopw [8] (fun vi wr => ∃ i : Nat, i ≤ n ∧ vi = .int .i64 (i : Int) ∧ Hid (∀ j, j < i → (bad4 t) j = false) ∧ Below w.heap.size w wr) (fun vi _ => n - (intOf vi).toNat)
  case atStart => exact ⟨0, by omega, rfl, fun j hj => by omega, BB⟩
  case round =>
    clear BB
    obtain ⟨i, hi, rfl, HB, BB⟩ := hrel
    by_cases hlt : i < n
    · have g1 : (i : Int) < (n : Int) := by omega
      have g0 : (0 : Int) ≤ (i : Int) := by omega
      have hv1 := hv.below BB
      obtain ⟨b, off, cc, p1, a1, n1, c1, b1, m1, d1, p2, a2, n2, c2, b2, m2, d2, p3, a3, n3, c3, b3, m3, d3, hvv, hcc, hc6, NN, r1, r2, r3, i1, i2, i3⟩ := hv1.at hlt
      cases hvv
      clear r1 r2 i1 i2 i3
      have HNI := HN.out i hlt
      obtain ⟨lf, hlf⟩ : ∃ z, (t i).leaf = z := ⟨_, rfl⟩
      obtain ⟨ft, hft⟩ : ∃ z, (t i).feat = z := ⟨_, rfl⟩
      obtain ⟨ll, hll⟩ : ∃ z, (t i).left = z := ⟨_, rfl⟩
      obtain ⟨rr, hrr⟩ : ∃ z, (t i).right = z := ⟨_, rfl⟩
      have HLF : Hid ((t i).leaf = lf) := hlf
      have HLL : Hid ((t i).left = ll) := hll
      have HRR : Hid ((t i).right = rr) := hrr
      rw [hlf, hll, hrr] at HNI
      rw [hlf, hft, hll, hrr] at NN
      clear hlf hft hll hrr
      generalize (t i).miss = ms at NN
      cases lf
      · obtain ⟨n1_, n2_, n3_, n4_⟩ := HNI rfl
        obtain ⟨l, rfl⟩ : ∃ l : Nat, ll = (l : Int) := ⟨ll.toNat, by omega⟩
        obtain ⟨m, rfl⟩ : ∃ m : Nat, rr = (m : Int) := ⟨rr.toNat, by omega⟩
        have hl1 : l < n := by omega
        have hm1 : m < n := by omega
        have e1 : (0 : Int) ≤ (l : Int) := by omega
        have e2 : (l : Int) < (n : Int) := by omega
        have e3 : (0 : Int) ≤ (m : Int) := by omega
        have e4 : (m : Int) < (n : Int) := by omega
        clear HNI
        obtain ⟨bL, offL, ccL, p1L, a1L, n1L, c1L, b1L, m1L, d1L, p2L, a2L, n2L, c2L, b2L, m2L, d2L, p3L, a3L, n3L, c3L, b3L, m3L, d3L, hvvL, hccL, hc6L, NNL, r1L, r2L, r3L, i1L, i2L, i3L⟩ := hv1.at hl1
        cases hvvL
        obtain ⟨bM, offM, ccM, p1M, a1M, n1M, c1M, b1M, m1M, d1M, p2M, a2M, n2M, c2M, b2M, m2M, d2M, p3M, a3M, n3M, c3M, b3M, m3M, d3M, hvvM, hccM, hc6M, NNM, r1M, r2M, r3M, i1M, i2M, i3M⟩ := hv1.at hm1
        cases hvvM
        clear hv1 r1L r2L r1M r2M i1L i2L i3L i1M i2M i3M
        have HP : Hid (bad4 t i = !decide ((t i).cov = (t l).cov + (t m).cov)) := bad4_split HLF.out HLL.out HRR.out
        have sl := r3L.qsz hL
        have sm := r3M.qsz hL
        have sS : qsz ((t l).cov + (t m).cov) ≤ L + L + 1 := qsz_add _ _ sl sm
        clear HLF HLL HRR
        have ht1 := ht.below BB
        obtain ⟨N_0, N_1, N_2, N_3, N_4, N_5, N_6, N_7, N_8, N_9, N_10, N_11, N_12, N_13⟩ := id NN
        obtain ⟨W21, hW21, hS21, hL21, VN, FN⟩ := V14.lay wr 44 (.bool false) (.int .i64 ft) (.bool p1) (.slice a1 n1 c1) (.slice b1 m1 d1) (.int .i64 (l : Int)) (.int .i64 (m : Int)) (.bool ms) (.bool p2) (.slice a2 n2 c2) (.slice b2 m2 d2) (.bool p3) (.slice a3 n3 c3) (.slice b3 m3 d3)
        replace NNL := NNL.below hL21
        replace NNM := NNM.below hL21
        replace r3 := r3.below hL21
        replace r3L := r3L.below hL21
        replace r3M := r3M.below hL21
        replace ht1 := ht1.below hL21
        replace BB := BB.trans (hL21.mono BB.size)
        clear hL21
        obtain ⟨V_0, V_1, V_2, V_3, V_4, V_5, V_6, V_7, V_8, V_9, V_10, V_11, V_12, V_13⟩ := id VN
        rw [hW21] at V_0 V_1 V_2 V_3 V_4 V_5 V_6 V_7 V_8 V_9 V_10 V_11 V_12 V_13
        go_wp2
        clear V_0 V_1 V_2 V_3 V_4 V_5 V_6 V_7 V_8 V_9 V_10 V_11 V_12 V_13
        clear N_0 N_1 N_2 N_3 N_4 N_5 N_6 N_7 N_8 N_9 N_10 N_11 N_12 N_13
        rw [← hW21]
        generalize wr.heap.size = R21 at *
        clear hW21 hS21
        by_cases hq : (t i).cov = (t l).cov + (t m).cov
        · have hDr : Below W21.heap.size W21 W21.drew := (Below.refl _ _).drew
          replace NNL := NNL.below hDr
          replace NNM := NNM.below hDr
          replace r3 := r3.below hDr
          replace r3L := r3L.below hDr
          replace r3M := r3M.below hDr
          replace ht1 := ht1.below hDr
          replace VN := VN.below hDr
          replace BB := BB.trans (hDr.mono BB.size)
          clear hDr
          refine wp_region_held_drew (S := (fun w' => w'.cell? ⟨R21, 0, none⟩ = some (.bool false) ∧ w'.cell? ⟨R21, 5, none⟩ = some (.int .i64 (l : Int)) ∧ w'.cell? ⟨R21, 6, none⟩ = some (.int .i64 (m : Int)) ∧ w'.cell? ⟨R21, 11, none⟩ = some (.bool p3) ∧ w'.cell? ⟨R21, 12, none⟩ = some (.slice a3 n3 c3) ∧ w'.cell? ⟨R21, 13, none⟩ = some (.slice b3 m3 d3) ∧ w'.cell? ⟨b, off + l * 14 + 11, none⟩ = some (.bool p3L) ∧ w'.cell? ⟨b, off + l * 14 + 12, none⟩ = some (.slice a3L n3L c3L) ∧ w'.cell? ⟨b, off + l * 14 + 13, none⟩ = some (.slice b3L m3L d3L) ∧ w'.cell? ⟨b, off + m * 14 + 11, none⟩ = some (.bool p3M) ∧ w'.cell? ⟨b, off + m * 14 + 12, none⟩ = some (.slice a3M n3M c3M) ∧ w'.cell? ⟨b, off + m * 14 + 13, none⟩ = some (.slice b3M m3M d3M))) (by kernel_rfl) ?_ (fun hHeld => ?_)
          · exact ⟨VN.c0, VN.c5, VN.c6, VN.c11, VN.c12, VN.c13, NNL.c11, NNL.c12, NNL.c13, NNM.c11, NNM.c12, NNM.c13⟩
          generalize W21.drew = W22 at *
          refine wpAnyH_take (i := 0) (v := ?_) (by simp only [List.getElem?_toArray, List.getElem?_cons_succ, List.getElem?_cons_zero]; rfl) (by kernel_rfl) (by kernel_rfl) (by kernel_rfl) (by exact fun _ _ _ h => h) (Or.inl ⟨by rfl, ?_⟩) (by assumption) ?_
          rotate_left
          · (intro w hSw; (try dsimp only at hSw); go_simp; (try with_reducible rfl))
          (try simp only [Act.put, List.setIfInBounds_toArray, List.set_cons_zero, List.set_cons_succ])
          refine wpAnyH_take (i := 1) (v := ?_) (by simp only [List.getElem?_toArray, List.getElem?_cons_succ, List.getElem?_cons_zero]; rfl) (by kernel_rfl) (by kernel_rfl) (by kernel_rfl) (by exact fun _ _ _ h => h) (Or.inl ⟨by rfl, ?_⟩) (by assumption) ?_
          rotate_left
          · (intro w hSw; (try dsimp only at hSw); go_simp; (try with_reducible rfl))
          (try simp only [Act.put, List.setIfInBounds_toArray, List.set_cons_zero, List.set_cons_succ])
          refine wpAnyH_take (i := 2) (v := ?_) (by simp only [List.getElem?_toArray, List.getElem?_cons_succ, List.getElem?_cons_zero]; rfl) (by kernel_rfl) (by kernel_rfl) (by kernel_rfl) (by exact fun _ _ _ h => h) (Or.inl ⟨by rfl, ?_⟩) (by assumption) ?_
          rotate_left
          · (intro w hSw; (try dsimp only at hSw); go_simp; (try with_reducible rfl))
          (try simp only [Act.put, List.setIfInBounds_toArray, List.set_cons_zero, List.set_cons_succ])
          refine wpAnyH_take (i := 3) (v := ?_) (by simp only [List.getElem?_toArray, List.getElem?_cons_succ, List.getElem?_cons_zero]; rfl) (by kernel_rfl) (by kernel_rfl) (by kernel_rfl) (by exact fun _ _ _ h => h) (Or.inl ⟨by rfl, ?_⟩) (by assumption) ?_
          rotate_left
          · (intro w hSw; (try dsimp only at hSw); go_simp; (try with_reducible rfl))
          (try simp only [Act.put, List.setIfInBounds_toArray, List.set_cons_zero, List.set_cons_succ])
          refine wpAnyH_take (i := 4) (v := ?_) (by simp only [List.getElem?_toArray, List.getElem?_cons_succ, List.getElem?_cons_zero]; rfl) (by kernel_rfl) (by kernel_rfl) (by kernel_rfl) (by exact fun _ _ _ h => h) (Or.inl ⟨by rfl, ?_⟩) (by assumption) ?_
          rotate_left
          · (intro w hSw; (try dsimp only at hSw); go_simp; (try with_reducible rfl))
          (try simp only [Act.put, List.setIfInBounds_toArray, List.set_cons_zero, List.set_cons_succ])
          refine wpAnyH_take (i := 5) (v := ?_) (by simp only [List.getElem?_toArray, List.getElem?_cons_succ, List.getElem?_cons_zero]; rfl) (by kernel_rfl) (by kernel_rfl) (by kernel_rfl) (by exact fun _ _ _ h => h) (Or.inl ⟨by rfl, ?_⟩) (by assumption) ?_
          rotate_left
          · (intro w hSw; (try dsimp only at hSw); go_simp; (try with_reducible rfl))
          (try simp only [Act.put, List.setIfInBounds_toArray, List.set_cons_zero, List.set_cons_succ])
          refine wpAnyH_take (i := 6) (v := ?_) (by simp only [List.getElem?_toArray, List.getElem?_cons_succ, List.getElem?_cons_zero]; rfl) (by kernel_rfl) (by kernel_rfl) (by kernel_rfl) (by exact fun _ _ _ h => h) (Or.inl ⟨by rfl, ?_⟩) (by assumption) ?_
          rotate_left
          · (intro w hSw; (try dsimp only at hSw); go_simp; (try with_reducible rfl))
          (try simp only [Act.put, List.setIfInBounds_toArray, List.set_cons_zero, List.set_cons_succ])
          refine wpAnyH_take (i := 7) (v := ?_) (by simp only [List.getElem?_toArray, List.getElem?_cons_succ, List.getElem?_cons_zero]; rfl) (by kernel_rfl) (by kernel_rfl) (by kernel_rfl) (by exact fun _ _ _ h => h) (Or.inl ⟨by rfl, ?_⟩) (by assumption) ?_
          rotate_left
          · (intro w hSw; (try dsimp only at hSw); go_simp; (try with_reducible rfl))
          (try simp only [Act.put, List.setIfInBounds_toArray, List.set_cons_zero, List.set_cons_succ])
          refine wpAnyH_take (i := 8) (v := ?_) (by simp only [List.getElem?_toArray, List.getElem?_cons_succ, List.getElem?_cons_zero]; rfl) (by kernel_rfl) (by kernel_rfl) (by kernel_rfl) (by exact fun _ _ _ h => h) (Or.inl ⟨by rfl, ?_⟩) (by assumption) ?_
          rotate_left
          · (intro w hSw; (try dsimp only at hSw); go_simp; (try with_reducible rfl))
          (try simp only [Act.put, List.setIfInBounds_toArray, List.set_cons_zero, List.set_cons_succ])
          refine wpAnyH_take (i := 9) (v := ?_) (by simp only [List.getElem?_toArray, List.getElem?_cons_succ, List.getElem?_cons_zero]; rfl) (by kernel_rfl) (by kernel_rfl) (by kernel_rfl) (by exact fun _ _ _ h => h) (Or.inl ⟨by rfl, ?_⟩) (by assumption) ?_
          rotate_left
          · (intro w hSw; (try dsimp only at hSw); go_simp; (try with_reducible rfl))
          (try simp only [Act.put, List.setIfInBounds_toArray, List.set_cons_zero, List.set_cons_succ])
          refine wpAnyH_take (i := 10) (v := ?_) (by simp only [List.getElem?_toArray, List.getElem?_cons_succ, List.getElem?_cons_zero]; rfl) (by kernel_rfl) (by kernel_rfl) (by kernel_rfl) (by exact fun _ _ _ h => h) (Or.inl ⟨by rfl, ?_⟩) (by assumption) ?_
          rotate_left
          · (intro w hSw; (try dsimp only at hSw); go_simp; (try with_reducible rfl))
          (try simp only [Act.put, List.setIfInBounds_toArray, List.set_cons_zero, List.set_cons_succ])
          refine wpAnyH_take (i := 11) (v := ?_) (by simp only [List.getElem?_toArray, List.getElem?_cons_succ, List.getElem?_cons_zero]; rfl) (by kernel_rfl) (by kernel_rfl) (by kernel_rfl) (by exact fun _ _ _ h => h) (Or.inl ⟨by rfl, ?_⟩) (by assumption) ?_
          rotate_left
          · (intro w hSw; (try dsimp only at hSw); go_simp; (try with_reducible rfl))
          (try simp only [Act.put, List.setIfInBounds_toArray, List.set_cons_zero, List.set_cons_succ])
          refine wpAnyH_take (i := 12) (v := ?_) (by simp only [List.getElem?_toArray, List.getElem?_cons_succ, List.getElem?_cons_zero]; rfl) (by kernel_rfl) (by kernel_rfl) (by kernel_rfl) (by exact fun _ _ _ h => h) (Or.inl ⟨by rfl, ?_⟩) (by assumption) ?_
          rotate_left
          · (intro w hSw; (try dsimp only at hSw); go_simp; (try with_reducible rfl))
          (try simp only [Act.put, List.setIfInBounds_toArray, List.set_cons_zero, List.set_cons_succ])
          refine wpAnyH_take (i := 13) (v := ?_) (by simp only [List.getElem?_toArray, List.getElem?_cons_succ, List.getElem?_cons_zero]; rfl) (by kernel_rfl) (by kernel_rfl) (by kernel_rfl) (by exact fun _ _ _ h => h) (Or.inl ⟨by rfl, ?_⟩) (by assumption) ?_
          rotate_left
          · (intro w hSw; (try dsimp only at hSw); go_simp; (try with_reducible rfl))
          (try simp only [Act.put, List.setIfInBounds_toArray, List.set_cons_zero, List.set_cons_succ])
          refine wpAnyH_take (i := 14) (v := ?_) (by simp only [List.getElem?_toArray, List.getElem?_cons_succ, List.getElem?_cons_zero]; rfl) (by kernel_rfl) (by kernel_rfl) (by kernel_rfl) (by exact fun _ _ _ h => h) (Or.inl ⟨by rfl, ?_⟩) (by assumption) ?_
          rotate_left
          · (intro w hSw; (try dsimp only at hSw); go_simp; (try with_reducible rfl))
          (try simp only [Act.put, List.setIfInBounds_toArray, List.set_cons_zero, List.set_cons_succ])
          refine wpAnyH_take (i := 15) (v := ?_) (by simp only [List.getElem?_toArray, List.getElem?_cons_succ, List.getElem?_cons_zero]; rfl) (by kernel_rfl) (by kernel_rfl) (by kernel_rfl) (by exact fun _ _ _ h => h) (Or.inl ⟨by rfl, ?_⟩) (by assumption) ?_
          rotate_left
          · (intro w hSw; (try dsimp only at hSw); go_simp; (try with_reducible rfl))
          (try simp only [Act.put, List.setIfInBounds_toArray, List.set_cons_zero, List.set_cons_succ])
          refine wpAnyH_take (i := 16) (v := ?_) (by simp only [List.getElem?_toArray, List.getElem?_cons_succ, List.getElem?_cons_zero]; rfl) (by kernel_rfl) (by kernel_rfl) (by kernel_rfl) (by exact fun _ _ _ h => h) (Or.inl ⟨by rfl, ?_⟩) (by assumption) ?_
          rotate_left
          · (intro w hSw; (try dsimp only at hSw); go_simp; (try with_reducible rfl))
          (try simp only [Act.put, List.setIfInBounds_toArray, List.set_cons_zero, List.set_cons_succ])
          refine wpAnyH_take (i := 17) (v := ?_) (by simp only [List.getElem?_toArray, List.getElem?_cons_succ, List.getElem?_cons_zero]; rfl) (by kernel_rfl) (by kernel_rfl) (by kernel_rfl) (by exact fun _ _ _ h => h) (Or.inl ⟨by rfl, ?_⟩) (by assumption) ?_
          rotate_left
          · (intro w hSw; (try dsimp only at hSw); go_simp; (try with_reducible rfl))
          (try simp only [Act.put, List.setIfInBounds_toArray, List.set_cons_zero, List.set_cons_succ])
          refine wpAnyH_ready (rs := [18]) (by kernel_rfl) (by simp) ?_
          refine AllReadyH.cons (by simp only [List.getElem?_toArray, List.getElem?_cons_succ, List.getElem?_cons_zero]; rfl) (fun K hK => ?_) AllReadyH.nil
          go_simp
          refine (qadd_at _ _ (t l).cov (t m).cov L _ r3L r3M hL (by omega) ht1).mono ?_
          rintro e w21 ⟨x18, rfl, h18, b21⟩
          go_wp2_with fail
          replace NNL := NNL.below b21
          replace NNM := NNM.below b21
          replace r3 := r3.below b21
          replace r3L := r3L.below b21
          replace r3M := r3M.below b21
          replace ht1 := ht1.below b21
          replace VN := VN.below b21
          replace BB := BB.trans (b21.mono BB.size)
          clear b21
          refine hK.out _ _ ?_ (fun hH1 => ?_)
          · exact ⟨VN.c0, VN.c5, VN.c6, VN.c11, VN.c12, VN.c13, NNL.c11, NNL.c12, NNL.c13, NNM.c11, NNM.c12, NNM.c13⟩
          clear hK K hHeld
          (try simp only [Act.put, List.setIfInBounds_toArray, List.set_cons_zero, List.set_cons_succ])
          refine wpAnyH_ready (rs := [19]) (by kernel_rfl) (by simp) ?_
          refine AllReadyH.cons (by simp only [List.getElem?_toArray, List.getElem?_cons_succ, List.getElem?_cons_zero]; rfl) (fun K hK => ?_) AllReadyH.nil
          go_simp
          refine (qsame_at _ _ (t i).cov ((t l).cov + (t m).cov) (L + L + 1) _ (r3.le (by omega)) (h18.at (L + L + 1) sS) (by omega) (by omega)).mono ?_
          rintro e w22 ⟨rfl, b22⟩
          rw [decide_eq_true hq]
          go_wp2_with fail
          replace NNL := NNL.below b22
          replace NNM := NNM.below b22
          replace r3 := r3.below b22
          replace r3L := r3L.below b22
          replace r3M := r3M.below b22
          replace ht1 := ht1.below b22
          replace VN := VN.below b22
          replace h18 := h18.below b22
          replace BB := BB.trans (b22.mono BB.size)
          clear b22
          refine hK.out _ _ ?_ (fun hH2 => ?_)
          · exact ⟨VN.c0, VN.c5, VN.c6, VN.c11, VN.c12, VN.c13, NNL.c11, NNL.c12, NNL.c13, NNM.c11, NNM.c12, NNM.c13⟩
          clear hK K hH1
          (try simp only [Act.put, List.setIfInBounds_toArray, List.set_cons_zero, List.set_cons_succ])
          refine wpAnyH_take (i := 20) (v := ?_) (by simp only [List.getElem?_toArray, List.getElem?_cons_succ, List.getElem?_cons_zero]; rfl) (by kernel_rfl) (by kernel_rfl) (by kernel_rfl) (by exact fun _ _ _ h => h) (Or.inl ⟨by rfl, ?_⟩) (by assumption) ?_
          rotate_left
          · (intro w hSw; (try dsimp only at hSw); go_simp; (try with_reducible rfl))
          (try simp only [Act.put, List.setIfInBounds_toArray, List.set_cons_zero, List.set_cons_succ])
          refine wpAnyH_take (i := 21) (v := ?_) (by simp only [List.getElem?_toArray, List.getElem?_cons_succ, List.getElem?_cons_zero]; rfl) (by kernel_rfl) (by kernel_rfl) (by kernel_rfl) (by exact fun _ _ _ h => h) (Or.inl ⟨by rfl, ?_⟩) (by assumption) ?_
          rotate_left
          · (intro w hSw; (try dsimp only at hSw); go_simp; (try with_reducible rfl))
          (try simp only [Act.put, List.setIfInBounds_toArray, List.set_cons_zero, List.set_cons_succ])
          refine wpAnyH_done (by kernel_rfl) ?_ _
          clear hH2
          have HB2 : Hid (∀ j, j < i + 1 → (bad4 t) j = false) := fun j hj => by
            by_cases e : j = i
            · subst e; rw [HP.out, decide_eq_true hq]; rfl
            · exact HB.out j (by omega)
          clear HB
          go_wp2
          go_roundw
          case rel => exact ⟨i + 1, by omega, by go_num, HB2, BB⟩
          case measure => simp [intOf]; omega
        · have hDr : Below W21.heap.size W21 W21.drew := (Below.refl _ _).drew
          replace NNL := NNL.below hDr
          replace NNM := NNM.below hDr
          replace r3 := r3.below hDr
          replace r3L := r3L.below hDr
          replace r3M := r3M.below hDr
          replace ht1 := ht1.below hDr
          replace VN := VN.below hDr
          replace BB := BB.trans (hDr.mono BB.size)
          clear hDr
          refine wp_region_held_drew (S := (fun w' => w'.cell? ⟨R21, 0, none⟩ = some (.bool false) ∧ w'.cell? ⟨R21, 5, none⟩ = some (.int .i64 (l : Int)) ∧ w'.cell? ⟨R21, 6, none⟩ = some (.int .i64 (m : Int)) ∧ w'.cell? ⟨R21, 11, none⟩ = some (.bool p3) ∧ w'.cell? ⟨R21, 12, none⟩ = some (.slice a3 n3 c3) ∧ w'.cell? ⟨R21, 13, none⟩ = some (.slice b3 m3 d3) ∧ w'.cell? ⟨b, off + l * 14 + 11, none⟩ = some (.bool p3L) ∧ w'.cell? ⟨b, off + l * 14 + 12, none⟩ = some (.slice a3L n3L c3L) ∧ w'.cell? ⟨b, off + l * 14 + 13, none⟩ = some (.slice b3L m3L d3L) ∧ w'.cell? ⟨b, off + m * 14 + 11, none⟩ = some (.bool p3M) ∧ w'.cell? ⟨b, off + m * 14 + 12, none⟩ = some (.slice a3M n3M c3M) ∧ w'.cell? ⟨b, off + m * 14 + 13, none⟩ = some (.slice b3M m3M d3M))) (by kernel_rfl) ?_ (fun hHeld => ?_)
          · exact ⟨VN.c0, VN.c5, VN.c6, VN.c11, VN.c12, VN.c13, NNL.c11, NNL.c12, NNL.c13, NNM.c11, NNM.c12, NNM.c13⟩
          generalize W21.drew = W22 at *
          refine wpAnyH_take (i := 0) (v := ?_) (by simp only [List.getElem?_toArray, List.getElem?_cons_succ, List.getElem?_cons_zero]; rfl) (by kernel_rfl) (by kernel_rfl) (by kernel_rfl) (by exact fun _ _ _ h => h) (Or.inl ⟨by rfl, ?_⟩) (by assumption) ?_
          rotate_left
          · (intro w hSw; (try dsimp only at hSw); go_simp; (try with_reducible rfl))
          (try simp only [Act.put, List.setIfInBounds_toArray, List.set_cons_zero, List.set_cons_succ])
          refine wpAnyH_take (i := 1) (v := ?_) (by simp only [List.getElem?_toArray, List.getElem?_cons_succ, List.getElem?_cons_zero]; rfl) (by kernel_rfl) (by kernel_rfl) (by kernel_rfl) (by exact fun _ _ _ h => h) (Or.inl ⟨by rfl, ?_⟩) (by assumption) ?_
          rotate_left
          · (intro w hSw; (try dsimp only at hSw); go_simp; (try with_reducible rfl))
          (try simp only [Act.put, List.setIfInBounds_toArray, List.set_cons_zero, List.set_cons_succ])
          refine wpAnyH_take (i := 2) (v := ?_) (by simp only [List.getElem?_toArray, List.getElem?_cons_succ, List.getElem?_cons_zero]; rfl) (by kernel_rfl) (by kernel_rfl) (by kernel_rfl) (by exact fun _ _ _ h => h) (Or.inl ⟨by rfl, ?_⟩) (by assumption) ?_
          rotate_left
          · (intro w hSw; (try dsimp only at hSw); go_simp; (try with_reducible rfl))
          (try simp only [Act.put, List.setIfInBounds_toArray, List.set_cons_zero, List.set_cons_succ])
          refine wpAnyH_take (i := 3) (v := ?_) (by simp only [List.getElem?_toArray, List.getElem?_cons_succ, List.getElem?_cons_zero]; rfl) (by kernel_rfl) (by kernel_rfl) (by kernel_rfl) (by exact fun _ _ _ h => h) (Or.inl ⟨by rfl, ?_⟩) (by assumption) ?_
          rotate_left
          · (intro w hSw; (try dsimp only at hSw); go_simp; (try with_reducible rfl))
          (try simp only [Act.put, List.setIfInBounds_toArray, List.set_cons_zero, List.set_cons_succ])
          refine wpAnyH_take (i := 4) (v := ?_) (by simp only [List.getElem?_toArray, List.getElem?_cons_succ, List.getElem?_cons_zero]; rfl) (by kernel_rfl) (by kernel_rfl) (by kernel_rfl) (by exact fun _ _ _ h => h) (Or.inl ⟨by rfl, ?_⟩) (by assumption) ?_
          rotate_left
          · (intro w hSw; (try dsimp only at hSw); go_simp; (try with_reducible rfl))
          (try simp only [Act.put, List.setIfInBounds_toArray, List.set_cons_zero, List.set_cons_succ])
          refine wpAnyH_take (i := 5) (v := ?_) (by simp only [List.getElem?_toArray, List.getElem?_cons_succ, List.getElem?_cons_zero]; rfl) (by kernel_rfl) (by kernel_rfl) (by kernel_rfl) (by exact fun _ _ _ h => h) (Or.inl ⟨by rfl, ?_⟩) (by assumption) ?_
          rotate_left
          · (intro w hSw; (try dsimp only at hSw); go_simp; (try with_reducible rfl))
          (try simp only [Act.put, List.setIfInBounds_toArray, List.set_cons_zero, List.set_cons_succ])
          refine wpAnyH_take (i := 6) (v := ?_) (by simp only [List.getElem?_toArray, List.getElem?_cons_succ, List.getElem?_cons_zero]; rfl) (by kernel_rfl) (by kernel_rfl) (by kernel_rfl) (by exact fun _ _ _ h => h) (Or.inl ⟨by rfl, ?_⟩) (by assumption) ?_
          rotate_left
          · (intro w hSw; (try dsimp only at hSw); go_simp; (try with_reducible rfl))
          (try simp only [Act.put, List.setIfInBounds_toArray, List.set_cons_zero, List.set_cons_succ])
          refine wpAnyH_take (i := 7) (v := ?_) (by simp only [List.getElem?_toArray, List.getElem?_cons_succ, List.getElem?_cons_zero]; rfl) (by kernel_rfl) (by kernel_rfl) (by kernel_rfl) (by exact fun _ _ _ h => h) (Or.inl ⟨by rfl, ?_⟩) (by assumption) ?_
          rotate_left
          · (intro w hSw; (try dsimp only at hSw); go_simp; (try with_reducible rfl))
          (try simp only [Act.put, List.setIfInBounds_toArray, List.set_cons_zero, List.set_cons_succ])
          refine wpAnyH_take (i := 8) (v := ?_) (by simp only [List.getElem?_toArray, List.getElem?_cons_succ, List.getElem?_cons_zero]; rfl) (by kernel_rfl) (by kernel_rfl) (by kernel_rfl) (by exact fun _ _ _ h => h) (Or.inl ⟨by rfl, ?_⟩) (by assumption) ?_
          rotate_left
          · (intro w hSw; (try dsimp only at hSw); go_simp; (try with_reducible rfl))
          (try simp only [Act.put, List.setIfInBounds_toArray, List.set_cons_zero, List.set_cons_succ])
          refine wpAnyH_take (i := 9) (v := ?_) (by simp only [List.getElem?_toArray, List.getElem?_cons_succ, List.getElem?_cons_zero]; rfl) (by kernel_rfl) (by kernel_rfl) (by kernel_rfl) (by exact fun _ _ _ h => h) (Or.inl ⟨by rfl, ?_⟩) (by assumption) ?_
          rotate_left
          · (intro w hSw; (try dsimp only at hSw); go_simp; (try with_reducible rfl))
          (try simp only [Act.put, List.setIfInBounds_toArray, List.set_cons_zero, List.set_cons_succ])
          refine wpAnyH_take (i := 10) (v := ?_) (by simp only [List.getElem?_toArray, List.getElem?_cons_succ, List.getElem?_cons_zero]; rfl) (by kernel_rfl) (by kernel_rfl) (by kernel_rfl) (by exact fun _ _ _ h => h) (Or.inl ⟨by rfl, ?_⟩) (by assumption) ?_
          rotate_left
          · (intro w hSw; (try dsimp only at hSw); go_simp; (try with_reducible rfl))
          (try simp only [Act.put, List.setIfInBounds_toArray, List.set_cons_zero, List.set_cons_succ])
          refine wpAnyH_take (i := 11) (v := ?_) (by simp only [List.getElem?_toArray, List.getElem?_cons_succ, List.getElem?_cons_zero]; rfl) (by kernel_rfl) (by kernel_rfl) (by kernel_rfl) (by exact fun _ _ _ h => h) (Or.inl ⟨by rfl, ?_⟩) (by assumption) ?_
          rotate_left
          · (intro w hSw; (try dsimp only at hSw); go_simp; (try with_reducible rfl))
          (try simp only [Act.put, List.setIfInBounds_toArray, List.set_cons_zero, List.set_cons_succ])
          refine wpAnyH_take (i := 12) (v := ?_) (by simp only [List.getElem?_toArray, List.getElem?_cons_succ, List.getElem?_cons_zero]; rfl) (by kernel_rfl) (by kernel_rfl) (by kernel_rfl) (by exact fun _ _ _ h => h) (Or.inl ⟨by rfl, ?_⟩) (by assumption) ?_
          rotate_left
          · (intro w hSw; (try dsimp only at hSw); go_simp; (try with_reducible rfl))
          (try simp only [Act.put, List.setIfInBounds_toArray, List.set_cons_zero, List.set_cons_succ])
          refine wpAnyH_take (i := 13) (v := ?_) (by simp only [List.getElem?_toArray, List.getElem?_cons_succ, List.getElem?_cons_zero]; rfl) (by kernel_rfl) (by kernel_rfl) (by kernel_rfl) (by exact fun _ _ _ h => h) (Or.inl ⟨by rfl, ?_⟩) (by assumption) ?_
          rotate_left
          · (intro w hSw; (try dsimp only at hSw); go_simp; (try with_reducible rfl))
          (try simp only [Act.put, List.setIfInBounds_toArray, List.set_cons_zero, List.set_cons_succ])
          refine wpAnyH_take (i := 14) (v := ?_) (by simp only [List.getElem?_toArray, List.getElem?_cons_succ, List.getElem?_cons_zero]; rfl) (by kernel_rfl) (by kernel_rfl) (by kernel_rfl) (by exact fun _ _ _ h => h) (Or.inl ⟨by rfl, ?_⟩) (by assumption) ?_
          rotate_left
          · (intro w hSw; (try dsimp only at hSw); go_simp; (try with_reducible rfl))
          (try simp only [Act.put, List.setIfInBounds_toArray, List.set_cons_zero, List.set_cons_succ])
          refine wpAnyH_take (i := 15) (v := ?_) (by simp only [List.getElem?_toArray, List.getElem?_cons_succ, List.getElem?_cons_zero]; rfl) (by kernel_rfl) (by kernel_rfl) (by kernel_rfl) (by exact fun _ _ _ h => h) (Or.inl ⟨by rfl, ?_⟩) (by assumption) ?_
          rotate_left
          · (intro w hSw; (try dsimp only at hSw); go_simp; (try with_reducible rfl))
          (try simp only [Act.put, List.setIfInBounds_toArray, List.set_cons_zero, List.set_cons_succ])
          refine wpAnyH_take (i := 16) (v := ?_) (by simp only [List.getElem?_toArray, List.getElem?_cons_succ, List.getElem?_cons_zero]; rfl) (by kernel_rfl) (by kernel_rfl) (by kernel_rfl) (by exact fun _ _ _ h => h) (Or.inl ⟨by rfl, ?_⟩) (by assumption) ?_
          rotate_left
          · (intro w hSw; (try dsimp only at hSw); go_simp; (try with_reducible rfl))
          (try simp only [Act.put, List.setIfInBounds_toArray, List.set_cons_zero, List.set_cons_succ])
          refine wpAnyH_take (i := 17) (v := ?_) (by simp only [List.getElem?_toArray, List.getElem?_cons_succ, List.getElem?_cons_zero]; rfl) (by kernel_rfl) (by kernel_rfl) (by kernel_rfl) (by exact fun _ _ _ h => h) (Or.inl ⟨by rfl, ?_⟩) (by assumption) ?_
          rotate_left
          · (intro w hSw; (try dsimp only at hSw); go_simp; (try with_reducible rfl))
          (try simp only [Act.put, List.setIfInBounds_toArray, List.set_cons_zero, List.set_cons_succ])
          refine wpAnyH_ready (rs := [18]) (by kernel_rfl) (by simp) ?_
          refine AllReadyH.cons (by simp only [List.getElem?_toArray, List.getElem?_cons_succ, List.getElem?_cons_zero]; rfl) (fun K hK => ?_) AllReadyH.nil
          go_simp
          refine (qadd_at _ _ (t l).cov (t m).cov L _ r3L r3M hL (by omega) ht1).mono ?_
          rintro e w21 ⟨x18, rfl, h18, b21⟩
          go_wp2_with fail
          replace NNL := NNL.below b21
          replace NNM := NNM.below b21
          replace r3 := r3.below b21
          replace r3L := r3L.below b21
          replace r3M := r3M.below b21
          replace ht1 := ht1.below b21
          replace VN := VN.below b21
          replace BB := BB.trans (b21.mono BB.size)
          clear b21
          refine hK.out _ _ ?_ (fun hH1 => ?_)
          · exact ⟨VN.c0, VN.c5, VN.c6, VN.c11, VN.c12, VN.c13, NNL.c11, NNL.c12, NNL.c13, NNM.c11, NNM.c12, NNM.c13⟩
          clear hK K hHeld
          (try simp only [Act.put, List.setIfInBounds_toArray, List.set_cons_zero, List.set_cons_succ])
          refine wpAnyH_ready (rs := [19]) (by kernel_rfl) (by simp) ?_
          refine AllReadyH.cons (by simp only [List.getElem?_toArray, List.getElem?_cons_succ, List.getElem?_cons_zero]; rfl) (fun K hK => ?_) AllReadyH.nil
          go_simp
          refine (qsame_at _ _ (t i).cov ((t l).cov + (t m).cov) (L + L + 1) _ (r3.le (by omega)) (h18.at (L + L + 1) sS) (by omega) (by omega)).mono ?_
          rintro e w22 ⟨rfl, b22⟩
          rw [decide_eq_false hq]
          go_wp2_with fail
          replace NNL := NNL.below b22
          replace NNM := NNM.below b22
          replace r3 := r3.below b22
          replace r3L := r3L.below b22
          replace r3M := r3M.below b22
          replace ht1 := ht1.below b22
          replace VN := VN.below b22
          replace h18 := h18.below b22
          replace BB := BB.trans (b22.mono BB.size)
          clear b22
          refine hK.out _ _ ?_ (fun hH2 => ?_)
          · exact ⟨VN.c0, VN.c5, VN.c6, VN.c11, VN.c12, VN.c13, NNL.c11, NNL.c12, NNL.c13, NNM.c11, NNM.c12, NNM.c13⟩
          clear hK K hH1
          (try simp only [Act.put, List.setIfInBounds_toArray, List.set_cons_zero, List.set_cons_succ])
          refine wpAnyH_take (i := 20) (v := ?_) (by simp only [List.getElem?_toArray, List.getElem?_cons_succ, List.getElem?_cons_zero]; rfl) (by kernel_rfl) (by kernel_rfl) (by kernel_rfl) (by exact fun _ _ _ h => h) (Or.inl ⟨by rfl, ?_⟩) (by assumption) ?_
          rotate_left
          · (intro w hSw; (try dsimp only at hSw); go_simp; (try with_reducible rfl))
          (try simp only [Act.put, List.setIfInBounds_toArray, List.set_cons_zero, List.set_cons_succ])
          refine wpAnyH_take (i := 21) (v := ?_) (by simp only [List.getElem?_toArray, List.getElem?_cons_succ, List.getElem?_cons_zero]; rfl) (by kernel_rfl) (by kernel_rfl) (by kernel_rfl) (by exact fun _ _ _ h => h) (Or.inl ⟨by rfl, ?_⟩) (by assumption) ?_
          rotate_left
          · (intro w hSw; (try dsimp only at hSw); go_simp; (try with_reducible rfl))
          (try simp only [Act.put, List.setIfInBounds_toArray, List.set_cons_zero, List.set_cons_succ])
          refine wpAnyH_done (by kernel_rfl) ?_ _
          clear hH2
          have hbad : bad4 t i = true := by rw [HP.out, decide_eq_false hq]; rfl
          clear HP
          have HR : Hid (rpV 13 (fb (bad4 t) n) = .tuple #[.int .i64 (i : Int), .int .i64 13]) := rpV_some hlt HB.out hbad
          clear HB
          go_wp2
          go_ret2
          exact ⟨congrArg Ending.returned HR.out.symm, BB⟩
      · have hbad : bad4 t i = false := bad4_leaf HLF.out
        clear HLF HLL HRR HNI hv1
        obtain ⟨N_0, N_1, N_2, N_3, N_4, N_5, N_6, N_7, N_8, N_9, N_10, N_11, N_12, N_13⟩ := id NN
        obtain ⟨W1, hW1, hS1, hL1, VN, FN⟩ := V14.lay wr 44 (.bool true) (.int .i64 ft) (.bool p1) (.slice a1 n1 c1) (.slice b1 m1 d1) (.int .i64 ll) (.int .i64 rr) (.bool ms) (.bool p2) (.slice a2 n2 c2) (.slice b2 m2 d2) (.bool p3) (.slice a3 n3 c3) (.slice b3 m3 d3)
        replace BB := BB.trans (hL1.mono BB.size)
        clear hL1
        obtain ⟨V_0, V_1, V_2, V_3, V_4, V_5, V_6, V_7, V_8, V_9, V_10, V_11, V_12, V_13⟩ := id VN
        rw [hW1] at V_0 V_1 V_2 V_3 V_4 V_5 V_6 V_7 V_8 V_9 V_10 V_11 V_12 V_13
        go_wp2
        clear V_0 V_1 V_2 V_3 V_4 V_5 V_6 V_7 V_8 V_9 V_10 V_11 V_12 V_13
        clear N_0 N_1 N_2 N_3 N_4 N_5 N_6 N_7 N_8 N_9 N_10 N_11 N_12 N_13
        rw [← hW1]
        generalize wr.heap.size = R1 at *
        clear hW1 hS1
        have hDr : Below W1.heap.size W1 W1.drew := (Below.refl _ _).drew
        replace VN := VN.below hDr
        replace BB := BB.trans (hDr.mono BB.size)
        clear hDr
        refine wp_region_held_drew (S := (fun w' => w'.cell? ⟨R1, 0, none⟩ = some (.bool true))) (by kernel_rfl) ?_ (fun hHeld => ?_)
        · exact VN.c0
        generalize W1.drew = W2 at *
        refine wpAnyH_take (i := 0) (v := ?_) (by simp only [List.getElem?_toArray, List.getElem?_cons_succ, List.getElem?_cons_zero]; rfl) (by kernel_rfl) (by kernel_rfl) (by kernel_rfl) (by exact fun _ _ _ h => h) (Or.inl ⟨by rfl, ?_⟩) (by assumption) ?_
        rotate_left
        · (intro w hSw; (try dsimp only at hSw); go_simp; (try with_reducible rfl))
        (try simp only [Act.put, List.setIfInBounds_toArray, List.set_cons_zero, List.set_cons_succ])
        refine wpAnyH_take (i := 1) (v := ?_) (by simp only [List.getElem?_toArray, List.getElem?_cons_succ, List.getElem?_cons_zero]; rfl) (by kernel_rfl) (by kernel_rfl) (by kernel_rfl) (by exact fun _ _ _ h => h) (Or.inl ⟨by rfl, ?_⟩) (by assumption) ?_
        rotate_left
        · (intro w hSw; (try dsimp only at hSw); go_simp; (try with_reducible rfl))
        (try simp only [Act.put, List.setIfInBounds_toArray, List.set_cons_zero, List.set_cons_succ])
        refine wpAnyH_take (i := 2) (v := ?_) (by simp only [List.getElem?_toArray, List.getElem?_cons_succ, List.getElem?_cons_zero]; rfl) (by kernel_rfl) (by kernel_rfl) (by kernel_rfl) (by exact fun _ _ _ h => h) (Or.inl ⟨by rfl, ?_⟩) (by assumption) ?_
        rotate_left
        · (intro w hSw; (try dsimp only at hSw); go_simp; (try with_reducible rfl))
        (try simp only [Act.put, List.setIfInBounds_toArray, List.set_cons_zero, List.set_cons_succ])
        refine wpAnyH_take (i := 3) (v := ?_) (by simp only [List.getElem?_toArray, List.getElem?_cons_succ, List.getElem?_cons_zero]; rfl) (by kernel_rfl) (by kernel_rfl) (by kernel_rfl) (by exact fun _ _ _ h => h) (Or.inl ⟨by rfl, ?_⟩) (by assumption) ?_
        rotate_left
        · (intro w hSw; (try dsimp only at hSw); go_simp; (try with_reducible rfl))
        (try simp only [Act.put, List.setIfInBounds_toArray, List.set_cons_zero, List.set_cons_succ])
        refine wpAnyH_take (i := 4) (v := undef) (by simp only [List.getElem?_toArray, List.getElem?_cons_succ, List.getElem?_cons_zero]; rfl) (by kernel_rfl) (by kernel_rfl) (by kernel_rfl) (by exact fun _ _ _ h => h) (Or.inr ⟨by rfl, rfl⟩) (by assumption) ?_
        (try simp only [Act.put, List.setIfInBounds_toArray, List.set_cons_zero, List.set_cons_succ])
        refine wpAnyH_take (i := 5) (v := undef) (by simp only [List.getElem?_toArray, List.getElem?_cons_succ, List.getElem?_cons_zero]; rfl) (by kernel_rfl) (by kernel_rfl) (by kernel_rfl) (by exact fun _ _ _ h => h) (Or.inr ⟨by rfl, rfl⟩) (by assumption) ?_
        (try simp only [Act.put, List.setIfInBounds_toArray, List.set_cons_zero, List.set_cons_succ])
        refine wpAnyH_take (i := 6) (v := undef) (by simp only [List.getElem?_toArray, List.getElem?_cons_succ, List.getElem?_cons_zero]; rfl) (by kernel_rfl) (by kernel_rfl) (by kernel_rfl) (by exact fun _ _ _ h => h) (Or.inr ⟨by rfl, rfl⟩) (by assumption) ?_
        (try simp only [Act.put, List.setIfInBounds_toArray, List.set_cons_zero, List.set_cons_succ])
        refine wpAnyH_take (i := 7) (v := undef) (by simp only [List.getElem?_toArray, List.getElem?_cons_succ, List.getElem?_cons_zero]; rfl) (by kernel_rfl) (by kernel_rfl) (by kernel_rfl) (by exact fun _ _ _ h => h) (Or.inr ⟨by rfl, rfl⟩) (by assumption) ?_
        (try simp only [Act.put, List.setIfInBounds_toArray, List.set_cons_zero, List.set_cons_succ])
        refine wpAnyH_take (i := 8) (v := undef) (by simp only [List.getElem?_toArray, List.getElem?_cons_succ, List.getElem?_cons_zero]; rfl) (by kernel_rfl) (by kernel_rfl) (by kernel_rfl) (by exact fun _ _ _ h => h) (Or.inr ⟨by rfl, rfl⟩) (by assumption) ?_
        (try simp only [Act.put, List.setIfInBounds_toArray, List.set_cons_zero, List.set_cons_succ])
        refine wpAnyH_take (i := 9) (v := undef) (by simp only [List.getElem?_toArray, List.getElem?_cons_succ, List.getElem?_cons_zero]; rfl) (by kernel_rfl) (by kernel_rfl) (by kernel_rfl) (by exact fun _ _ _ h => h) (Or.inr ⟨by rfl, rfl⟩) (by assumption) ?_
        (try simp only [Act.put, List.setIfInBounds_toArray, List.set_cons_zero, List.set_cons_succ])
        refine wpAnyH_take (i := 10) (v := undef) (by simp only [List.getElem?_toArray, List.getElem?_cons_succ, List.getElem?_cons_zero]; rfl) (by kernel_rfl) (by kernel_rfl) (by kernel_rfl) (by exact fun _ _ _ h => h) (Or.inr ⟨by rfl, rfl⟩) (by assumption) ?_
        (try simp only [Act.put, List.setIfInBounds_toArray, List.set_cons_zero, List.set_cons_succ])
        refine wpAnyH_take (i := 11) (v := undef) (by simp only [List.getElem?_toArray, List.getElem?_cons_succ, List.getElem?_cons_zero]; rfl) (by kernel_rfl) (by kernel_rfl) (by kernel_rfl) (by exact fun _ _ _ h => h) (Or.inr ⟨by rfl, rfl⟩) (by assumption) ?_
        (try simp only [Act.put, List.setIfInBounds_toArray, List.set_cons_zero, List.set_cons_succ])
        refine wpAnyH_take (i := 12) (v := undef) (by simp only [List.getElem?_toArray, List.getElem?_cons_succ, List.getElem?_cons_zero]; rfl) (by kernel_rfl) (by kernel_rfl) (by kernel_rfl) (by exact fun _ _ _ h => h) (Or.inr ⟨by rfl, rfl⟩) (by assumption) ?_
        (try simp only [Act.put, List.setIfInBounds_toArray, List.set_cons_zero, List.set_cons_succ])
        refine wpAnyH_take (i := 13) (v := undef) (by simp only [List.getElem?_toArray, List.getElem?_cons_succ, List.getElem?_cons_zero]; rfl) (by kernel_rfl) (by kernel_rfl) (by kernel_rfl) (by exact fun _ _ _ h => h) (Or.inr ⟨by rfl, rfl⟩) (by assumption) ?_
        (try simp only [Act.put, List.setIfInBounds_toArray, List.set_cons_zero, List.set_cons_succ])
        refine wpAnyH_take (i := 14) (v := undef) (by simp only [List.getElem?_toArray, List.getElem?_cons_succ, List.getElem?_cons_zero]; rfl) (by kernel_rfl) (by kernel_rfl) (by kernel_rfl) (by exact fun _ _ _ h => h) (Or.inr ⟨by rfl, rfl⟩) (by assumption) ?_
        (try simp only [Act.put, List.setIfInBounds_toArray, List.set_cons_zero, List.set_cons_succ])
        refine wpAnyH_take (i := 15) (v := undef) (by simp only [List.getElem?_toArray, List.getElem?_cons_succ, List.getElem?_cons_zero]; rfl) (by kernel_rfl) (by kernel_rfl) (by kernel_rfl) (by exact fun _ _ _ h => h) (Or.inr ⟨by rfl, rfl⟩) (by assumption) ?_
        (try simp only [Act.put, List.setIfInBounds_toArray, List.set_cons_zero, List.set_cons_succ])
        refine wpAnyH_take (i := 16) (v := undef) (by simp only [List.getElem?_toArray, List.getElem?_cons_succ, List.getElem?_cons_zero]; rfl) (by kernel_rfl) (by kernel_rfl) (by kernel_rfl) (by exact fun _ _ _ h => h) (Or.inr ⟨by rfl, rfl⟩) (by assumption) ?_
        (try simp only [Act.put, List.setIfInBounds_toArray, List.set_cons_zero, List.set_cons_succ])
        refine wpAnyH_take (i := 17) (v := undef) (by simp only [List.getElem?_toArray, List.getElem?_cons_succ, List.getElem?_cons_zero]; rfl) (by kernel_rfl) (by kernel_rfl) (by kernel_rfl) (by exact fun _ _ _ h => h) (Or.inr ⟨by rfl, rfl⟩) (by assumption) ?_
        (try simp only [Act.put, List.setIfInBounds_toArray, List.set_cons_zero, List.set_cons_succ])
        refine wpAnyH_take (i := 18) (v := undef) (by simp only [List.getElem?_toArray, List.getElem?_cons_succ, List.getElem?_cons_zero]; rfl) (by kernel_rfl) (by kernel_rfl) (by kernel_rfl) (by exact fun _ _ _ h => h) (Or.inr ⟨by rfl, rfl⟩) (by assumption) ?_
        (try simp only [Act.put, List.setIfInBounds_toArray, List.set_cons_zero, List.set_cons_succ])
        refine wpAnyH_take (i := 19) (v := undef) (by simp only [List.getElem?_toArray, List.getElem?_cons_succ, List.getElem?_cons_zero]; rfl) (by kernel_rfl) (by kernel_rfl) (by kernel_rfl) (by exact fun _ _ _ h => h) (Or.inr ⟨by rfl, rfl⟩) (by assumption) ?_
        (try simp only [Act.put, List.setIfInBounds_toArray, List.set_cons_zero, List.set_cons_succ])
        refine wpAnyH_take (i := 20) (v := undef) (by simp only [List.getElem?_toArray, List.getElem?_cons_succ, List.getElem?_cons_zero]; rfl) (by kernel_rfl) (by kernel_rfl) (by kernel_rfl) (by exact fun _ _ _ h => h) (Or.inr ⟨by rfl, rfl⟩) (by assumption) ?_
        (try simp only [Act.put, List.setIfInBounds_toArray, List.set_cons_zero, List.set_cons_succ])
        refine wpAnyH_take (i := 21) (v := ?_) (by simp only [List.getElem?_toArray, List.getElem?_cons_succ, List.getElem?_cons_zero]; rfl) (by kernel_rfl) (by kernel_rfl) (by kernel_rfl) (by exact fun _ _ _ h => h) (Or.inl ⟨by rfl, ?_⟩) (by assumption) ?_
        rotate_left
        · (intro w hSw; (try dsimp only at hSw); go_simp; (try with_reducible rfl))
        (try simp only [Act.put, List.setIfInBounds_toArray, List.set_cons_zero, List.set_cons_succ])
        refine wpAnyH_done (by kernel_rfl) ?_ _
        clear hHeld
        have HB2 : Hid (∀ j, j < i + 1 → (bad4 t) j = false) := fun j hj => by
          by_cases e : j = i
          · subst e; exact hbad
          · exact HB.out j (by omega)
        clear HB
        go_wp2
        go_roundw
        case rel => exact ⟨i + 1, by omega, by go_num, HB2, BB⟩
        case measure => simp [intOf]; omega
    · obtain rfl : i = n := by omega
      have g1 : ¬ (i : Int) < (i : Int) := by omega
      have HR : Hid (rpV 13 (fb (bad4 t) i) = .tuple #[.int .i64 (-1), .int .i64 0]) := rpV_none HB.out
      go_wp2
      go_ret2
      exact ⟨congrArg Ending.returned HR.out.symm, BB⟩

def ol (r : Nat) : Nat := if r = 1 then 2 else 1
def ov : Nat → Nat → Nat
  | 0, _ => 0
  | 1, j => 1 + j
  | 2, _ => 3
  | _, _ => 4
def ev : Nat → Int
  | 0 => 8
  | 1 => 11
  | 2 => 12
  | _ => 13
def bw (F : Int) (t : Nat → Nd) (n : Nat) : Nat → Nat → Nat → Bool
  | 0, _ => bad0 F t n
  | 1, 0 => bad1 t n
  | 1, _ => bad2 t n
  | 2, _ => bad3 t
  | _, _ => bad4 t
theorem lrule_any (r j : Nat) (hr : r < 4) (hj : j < ol r) (v : Value) (n : Nat) (t : Nat → Nd) (F : Int) (L : Nat) (w : World) (hv : TRow w v n t L) (ht : Tab w) (hn : n ≤ 255) (hN : 0 < r → Named t n) (hL : 1 ≤ L) (hLM : L ≤ 30000) :
    Calls Tryd.prog 23 #[v, .int .i64 F, .int .i64 (ov r j : Int)] w fun e w' => e = .returned (rpV (ev r) (fb (bw F t n r j) n)) ∧ Below w.heap.size w w' := by
  unfold ol at hj
  rcases (by omega : r = 0 ∨ r = 1 ∨ r = 2 ∨ r = 3) with rfl | rfl | rfl | rfl
  · exact lrule0_at v n t F L w hv hn
  · rw [if_pos rfl] at hj
    rcases (by omega : j = 0 ∨ j = 1) with rfl | rfl
    · exact lrule1_at v n t F L w hv hn
    · exact lrule2_at v n t F L w hv hn
  · exact lrule3_at v n t F L w hv hn hL (by omega)
  · exact lrule4_at v n t F L w hv hn ht (hN (by omega)) hL hLM
theorem rl_of_none {F : Int} {t : Nat → Nd} {n r : Nat} (hr : r < 4) (h : ∀ j, j < ol r → fb (bw F t n r j) n = none) : rl F t n r = none := by
  rcases (by omega : r = 0 ∨ r = 1 ∨ r = 2 ∨ r = 3) with rfl | rfl | rfl | rfl
  · have := h 0 (by decide); show Option.map _ (fb (bad0 F t n) n) = none; rw [show fb (bad0 F t n) n = none from this]; rfl
  · have h0 := h 0 (by decide)
    have h1 := h 1 (by decide)
    show Option.map _ ((fb (bad1 t n) n).or (fb (bad2 t n) n)) = none
    rw [show fb (bad1 t n) n = none from h0, show fb (bad2 t n) n = none from h1]; rfl
  · have := h 0 (by decide); show Option.map _ (fb (bad3 t) n) = none; rw [show fb (bad3 t) n = none from this]; rfl
  · have := h 0 (by decide); show Option.map _ (fb (bad4 t) n) = none; rw [show fb (bad4 t) n = none from this]; rfl
theorem rl_of_some {F : Int} {t : Nat → Nd} {n r j i : Nat} (hr : r < 4) (hj : j < ol r) (h0 : ∀ j', j' < j → fb (bw F t n r j') n = none) (h : fb (bw F t n r j) n = some i) : rl F t n r = some (ev r, i) := by
  unfold ol at hj
  rcases (by omega : r = 0 ∨ r = 1 ∨ r = 2 ∨ r = 3) with rfl | rfl | rfl | rfl
  · show Option.map _ (fb (bad0 F t n) n) = _; rw [show fb (bad0 F t n) n = some i from h]; rfl
  · rw [if_pos rfl] at hj
    rcases (by omega : j = 0 ∨ j = 1) with rfl | rfl
    · show Option.map _ ((fb (bad1 t n) n).or (fb (bad2 t n) n)) = _
      rw [show fb (bad1 t n) n = some i from h]; rfl
    · show Option.map _ ((fb (bad1 t n) n).or (fb (bad2 t n) n)) = _
      rw [show fb (bad1 t n) n = none from h0 0 (by omega), show fb (bad2 t n) n = some i from h]; rfl
  · show Option.map _ (fb (bad3 t) n) = _; rw [show fb (bad3 t) n = some i from h]; rfl
  · show Option.map _ (fb (bad4 t) n) = _; rw [show fb (bad4 t) n = some i from h]; rfl
theorem order_lay (w : World) : ∃ W, W = ((((w.alloc (.cells #[.int .i64 0] 3)).alloc (.cells #[.int .i64 1, .int .i64 2] 3)).alloc (.cells #[.int .i64 3] 3)).alloc (.cells #[.int .i64 4] 3)).alloc (.cells #[.slice (some ⟨w.heap.size, 0, none⟩) 1 1, .slice (some ⟨w.heap.size + 1, 0, none⟩) 2 2, .slice (some ⟨w.heap.size + 2, 0, none⟩) 1 1, .slice (some ⟨w.heap.size + 3, 0, none⟩) 1 1] 27) ∧ Below w.heap.size w W ∧
    ∀ r, r < 4 → W.cell? ⟨w.heap.size + 4, r, none⟩ = some (.slice (some ⟨w.heap.size + r, 0, none⟩) (ol r) (ol r)) ∧ ∀ j, j < ol r → W.cell? ⟨w.heap.size + r, j, none⟩ = some (.int .i64 (ov r j : Int)) := by
  refine ⟨_, rfl, ((((Below.refl _ _).alloc (Nat.le_refl _) _).alloc (by simp) _).alloc (by simp; omega) _).alloc (by simp; omega) _ |>.alloc (by simp; omega) _, fun r hr => ⟨?_, fun j hj => ?_⟩⟩
  · rcases (by omega : r = 0 ∨ r = 1 ∨ r = 2 ∨ r = 3) with rfl | rfl | rfl | rfl <;> simp [ol, go_sem]
  · unfold ol at hj
    rcases (by omega : r = 0 ∨ r = 1 ∨ r = 2 ∨ r = 3) with rfl | rfl | rfl | rfl
    · rw [if_neg (by omega)] at hj; obtain rfl : j = 0 := by omega
      simp [ov, go_sem]
    · rw [if_pos rfl] at hj
      rcases (by omega : j = 0 ∨ j = 1) with rfl | rfl <;> simp [ov, go_sem]
    · rw [if_neg (by omega)] at hj; obtain rfl : j = 0 := by omega
      simp [ov, go_sem]
    · rw [if_neg (by omega)] at hj; obtain rfl : j = 0 := by omega
      simp [ov, go_sem]
structure Cel8 (w : World) (b o : Nat) (x : Value) : Prop where
  cell : w.cell? ⟨b, o, none⟩ = some x
theorem Cel8.below {w w' : World} {b o : Nat} {x : Value} (h : Cel8 w b o x) (hb : Below w.heap.size w w') : Cel8 w' b o x := ⟨(hb.cell (World.block_lt_of_cell? w _ h.cell)).trans h.cell⟩
set_option maxRecDepth 100000 in
set_option maxHeartbeats 8000000 in
theorem lcheck_at (F : Int) (v : Value) (k : Nat) (N : Nat → Nat) (T : Nat → Nat → Nd) (L : Nat) (w : World) (hv : MRow w v k N T L) (ht : Tab w) (hL : 1 ≤ L) (hLM : L ≤ 30000) :
    Calls Tryd.prog 8 #[.agg #[.int .i64 F, v]] w fun e w' => ∃ u, e = .returned u ∧ ChkOut F k N T u ∧ Below w.heap.size w w' := by
  obtain ⟨ao, c, rfl, hnc, hc63⟩ := hv.open
  have BB : Below w.heap.size w w := Below.refl _ _
  obtain ⟨Wb0, hW0, hS0, hL0, VM⟩ := V2.lay w 25 (.int .i64 F) (.slice ao k c)
  replace hv := hv.below hL0
  replace ht := ht.below hL0
  replace BB := BB.trans (hL0.mono BB.size)
  clear hL0
  obtain ⟨Wb1, hW1, hS1, hL1, VR⟩ := V4.lay Wb0 32 (.int .i64 0) (.int .i64 0) (.int .i64 0) (.int .i64 0)
  rw [hS0] at VR hS1
  replace hv := hv.below hL1
  replace ht := ht.below hL1
  replace VM := VM.below hL1
  replace BB := BB.trans (hL1.mono BB.size)
  clear hL1
  go_enter Tryd.func8, Tryd.ntmps8
  obtain ⟨VM_0, VM_1, VM_2, VM_3⟩ := id VM
  rw [hW1, hW0] at VM_0 VM_1 VM_2 VM_3
  go_wp2_with fail
  clear VM_0 VM_1 VM_2 VM_3
  rw [← hW0]
  rw [← hW1]
  clear hW0 hW1 hS0 hS1
  refine (fits_at F _ k N T L _ hv).mono ?_
  rintro e w1 ⟨rfl, b1⟩
  replace hv := hv.below b1
  replace ht := ht.below b1
  replace VM := VM.below b1
  replace VR := VR.below b1
  replace BB := BB.trans (b1.mono BB.size)
  clear b1
  cases hmf : mfit F k N T
  · have HM : Hid (mfit F k N T = false) := hmf
    clear hmf
    obtain ⟨⟨q1, q2, q3, q4, q5, q6⟩, q7, q8⟩ := id VR
    go_wp2
    (try simp only [Exit.inBlock, Exit.then])
    refine bodyPost_ret (v := .agg #[.int .i64 1, .int .i64 0, .int .i64 0, .int .i64 0]) (by simp [results, go_sem, q1, q2, q3, q7]) rfl ?_
    exact ⟨_, rfl, .inl ⟨HM.out, rfl⟩, below_store4 BB (by omega) _ _ _ _⟩
  · have HM : Hid (mfit F k N T = true) := hmf
    obtain ⟨hF0, hF1, hk64, hlens⟩ := mfit_is hmf
    have HLN : Hid (∀ i, i < k → 1 ≤ N i ∧ N i ≤ 255) := hlens
    clear hmf hlens hF0 hF1
    obtain ⟨Wo, hWo, bo, hOr⟩ := order_lay w1
    have HOR : Hid (∀ r, r < 4 → Wo.cell? ⟨w1.heap.size + 4, r, none⟩ = some (.slice (some ⟨w1.heap.size + r, 0, none⟩) (ol r) (ol r)) ∧ ∀ j, j < ol r → Wo.cell? ⟨w1.heap.size + r, j, none⟩ = some (.int .i64 (ov r j : Int))) := hOr
    clear hOr
    replace hv := hv.below bo
    replace ht := ht.below bo
    replace VM := VM.below bo
    replace VR := VR.below bo
    replace BB := BB.trans (bo.mono BB.size)
    clear bo
    go_wp2
    rw [← hWo]
    generalize w1.heap.size = G at *
    clear hWo
    have hv0 := hv
    have ht0 := ht
    have VM0 := VM
    have VR0 := VR
    have BB0 : Hid (Below w.heap.size w Wo) := BB
    clear hv ht VM VR BB
    go_loopw [4] (fun vi wr => ∃ r : Nat, r ≤ 4 ∧ vi = .int .i64 (r : Int) ∧ Hid (∀ r', r' < r → ∀ i, i < k → rl F (T i) (N i) r' = none) ∧ Below Wo.heap.size Wo wr) (fun vi _ => 4 - (intOf vi).toNat)
    case atStart => exact ⟨0, by omega, rfl, fun r' h => by omega, Below.refl _ _⟩
    case round =>
      obtain ⟨r, hr, rfl, HB, BL⟩ := hrel
      by_cases hlt : r < 4
      · have g1 : (r : Int) < 4 := by omega
        have g0 : (0 : Int) ≤ (r : Int) := by omega
        go_wp2
        obtain ⟨wo, rfl⟩ : ∃ wo, wo = wr := ⟨_, rfl⟩
        go_loopw [5] (fun vi wr => ∃ i : Nat, i ≤ k ∧ vi = .int .i64 (i : Int) ∧ Hid (∀ i', i' < i → rl F (T i') (N i') r = none) ∧ Below Wo.heap.size Wo wr) (fun vi _ => k - (intOf vi).toNat)
        case atStart => exact ⟨0, by omega, rfl, fun i' h => by omega, BL⟩
        case round =>
          clear BL
          obtain ⟨i, hi, rfl, HI, BL⟩ := hrel
          obtain ⟨VM_0, VM_1, VM_2, VM_3⟩ := VM0.below BL
          by_cases hlt2 : i < k
          · have g2 : (i : Int) < (k : Int) := by omega
            have g3 : (0 : Int) ≤ (i : Int) := by omega
            obtain ⟨hn1, hn2⟩ := HLN.out i hlt2
            have HNM : Hid (0 < r → Named (T i) (N i)) := fun h0 => rl0_named (HB.out 0 h0 i hlt2)
            go_wp2
            clear VM_0 VM_1 VM_2 VM_3
            obtain ⟨wp_, rfl⟩ : ∃ wp_, wp_ = wr := ⟨_, rfl⟩
            have ho12 : 1 ≤ ol r ∧ ol r ≤ 2 := by unfold ol; split <;> omega
            obtain ⟨o, hoo⟩ : ∃ o, o = ol r := ⟨_, rfl⟩
            rw [← hoo] at ho12
            have HOO : Hid (o = ol r) := hoo
            clear hoo
            go_loopw [6] (fun vi wr => ∃ q : Nat, q ≤ o ∧ vi = .int .i64 (q : Int) ∧ Hid (∀ j, j < q → fb (bw F (T i) (N i) r j) (N i) = none) ∧ Below Wo.heap.size Wo wr) (fun vi _ => o - (intOf vi).toNat)
            case atStart => exact ⟨0, by omega, rfl, fun j h => by omega, BL⟩
            case round =>
              clear BL
              obtain ⟨q, hq, rfl, HQ, BL⟩ := hrel
              obtain ⟨XO0, XI0⟩ := HOR.out r hlt
              rw [← HOO.out] at XO0 XI0
              have XO : wr.cell? ⟨G + 4, r, none⟩ = some (.slice (some ⟨G + r, 0, none⟩) o o) := (BL.cell (World.block_lt_of_cell? _ _ XO0)).trans XO0
              clear XO0
              by_cases hlt3 : q < o
              · have g4 : (q : Int) < (o : Int) := by omega
                have g5 : (0 : Int) ≤ (q : Int) := by omega
                have XQ : wr.cell? ⟨G + r, q, none⟩ = some (.int .i64 (ov r q : Int)) := (BL.cell (World.block_lt_of_cell? _ _ (XI0 q hlt3))).trans (XI0 q hlt3)
                clear XI0
                obtain ⟨b, off, cc, a, d, hvv, hcc, XC, TR⟩ := (hv0.below BL).at hlt2
                cases hvv
                have ht := ht0.below BL
                have VM := VM0.below BL
                have VR := VR0.below BL
                have BB := BB0.out.trans (BL.mono BB0.out.size)
                have CO : Cel8 wr (G + 4) r (.slice (some ⟨G + r, 0, none⟩) o o) := ⟨XO⟩
                have CQ : Cel8 wr (G + r) q (.int .i64 (ov r q : Int)) := ⟨XQ⟩
                have CC : Cel8 wr b (off + i) (.slice a (N i) d) := ⟨XC⟩
                obtain ⟨W9, hq9⟩ : ∃ z, ov r q = z := ⟨_, rfl⟩
                rw [hq9] at CQ
                have HQ9 : Hid (ov r q = W9) := hq9
                clear hq9 XQ XC
                obtain ⟨VM_0, VM_1, VM_2, VM_3⟩ := id VM
                go_wp2
                clear XO VM_0 VM_1 VM_2 VM_3
                cases hfb : fb (bw F (T i) (N i) r q) (N i)
                · have HFB : Hid (fb (bw F (T i) (N i) r q) (N i) = none) := hfb
                  clear hfb
                  have BLR := BL
                  clear BL
                  have hDr : Below wr.heap.size wr wr.drew := (Below.refl _ _).drew
                  replace ht := ht.below hDr
                  replace TR := TR.below hDr
                  replace CO := CO.below hDr
                  replace CQ := CQ.below hDr
                  replace CC := CC.below hDr
                  replace VM := VM.below hDr
                  replace VR := VR.below hDr
                  replace BB := BB.trans (hDr.mono BB.size)
                  replace BLR := BLR.trans (hDr.mono BLR.size)
                  clear hDr
                  refine wp_region_held_drew (S := (fun w' => w'.cell? ⟨w.heap.size, 0, none⟩ = some (.int .i64 F) ∧ w'.cell? ⟨w.heap.size, 1, none⟩ = some (.slice (some ⟨b, off, none⟩) k c) ∧ w'.cell? ⟨b, off + i, none⟩ = some (.slice a (N i) d) ∧ w'.cell? ⟨G + 4, r, none⟩ = some (.slice (some ⟨G + r, 0, none⟩) o o) ∧ w'.cell? ⟨G + r, q, none⟩ = some (.int .i64 (W9 : Int)))) (by kernel_rfl) ?_ (fun hHeld => ?_)
                  · exact ⟨VM.1, VM.2.1, CC.cell, CO.cell, CQ.cell⟩
                  generalize wr.drew = W31 at *
                  refine wpAnyH_take (i := 0) (v := ?_) (by simp only [List.getElem?_toArray, List.getElem?_cons_succ, List.getElem?_cons_zero]; rfl) (by kernel_rfl) (by kernel_rfl) (by kernel_rfl) (by exact fun _ _ _ h => h) (Or.inl ⟨by rfl, ?_⟩) (by assumption) ?_
                  rotate_left
                  · (intro w hSw; (try dsimp only at hSw); go_simp; (try with_reducible rfl))
                  (try simp only [Act.put, List.setIfInBounds_toArray, List.set_cons_zero, List.set_cons_succ])
                  refine wpAnyH_take (i := 1) (v := ?_) (by simp only [List.getElem?_toArray, List.getElem?_cons_succ, List.getElem?_cons_zero]; rfl) (by kernel_rfl) (by kernel_rfl) (by kernel_rfl) (by exact fun _ _ _ h => h) (Or.inl ⟨by rfl, ?_⟩) (by assumption) ?_
                  rotate_left
                  · (intro w hSw; (try dsimp only at hSw); go_simp; (try with_reducible rfl))
                  (try simp only [Act.put, List.setIfInBounds_toArray, List.set_cons_zero, List.set_cons_succ])
                  refine wpAnyH_take (i := 2) (v := ?_) (by simp only [List.getElem?_toArray, List.getElem?_cons_succ, List.getElem?_cons_zero]; rfl) (by kernel_rfl) (by kernel_rfl) (by kernel_rfl) (by exact fun _ _ _ h => h) (Or.inl ⟨by rfl, ?_⟩) (by assumption) ?_
                  rotate_left
                  · (intro w hSw; (try dsimp only at hSw); go_simp; (try with_reducible rfl))
                  (try simp only [Act.put, List.setIfInBounds_toArray, List.set_cons_zero, List.set_cons_succ])
                  refine wpAnyH_take (i := 3) (v := ?_) (by simp only [List.getElem?_toArray, List.getElem?_cons_succ, List.getElem?_cons_zero]; rfl) (by kernel_rfl) (by kernel_rfl) (by kernel_rfl) (by exact fun _ _ _ h => h) (Or.inl ⟨by rfl, ?_⟩) (by assumption) ?_
                  rotate_left
                  · (intro w hSw; (try dsimp only at hSw); go_simp; (try with_reducible rfl))
                  (try simp only [Act.put, List.setIfInBounds_toArray, List.set_cons_zero, List.set_cons_succ])
                  refine wpAnyH_take (i := 4) (v := ?_) (by simp only [List.getElem?_toArray, List.getElem?_cons_succ, List.getElem?_cons_zero]; rfl) (by kernel_rfl) (by kernel_rfl) (by kernel_rfl) (by exact fun _ _ _ h => h) (Or.inl ⟨by rfl, ?_⟩) (by assumption) ?_
                  rotate_left
                  · (intro w hSw; (try dsimp only at hSw); go_simp; (try with_reducible rfl))
                  (try simp only [Act.put, List.setIfInBounds_toArray, List.set_cons_zero, List.set_cons_succ])
                  refine wpAnyH_take (i := 5) (v := ?_) (by simp only [List.getElem?_toArray, List.getElem?_cons_succ, List.getElem?_cons_zero]; rfl) (by kernel_rfl) (by kernel_rfl) (by kernel_rfl) (by exact fun _ _ _ h => h) (Or.inl ⟨by rfl, ?_⟩) (by assumption) ?_
                  rotate_left
                  · (intro w hSw; (try dsimp only at hSw); go_simp; (try with_reducible rfl))
                  (try simp only [Act.put, List.setIfInBounds_toArray, List.set_cons_zero, List.set_cons_succ])
                  refine wpAnyH_take (i := 6) (v := ?_) (by simp only [List.getElem?_toArray, List.getElem?_cons_succ, List.getElem?_cons_zero]; rfl) (by kernel_rfl) (by kernel_rfl) (by kernel_rfl) (by exact fun _ _ _ h => h) (Or.inl ⟨by rfl, ?_⟩) (by assumption) ?_
                  rotate_left
                  · (intro w hSw; (try dsimp only at hSw); go_simp; (try with_reducible rfl))
                  (try simp only [Act.put, List.setIfInBounds_toArray, List.set_cons_zero, List.set_cons_succ])
                  refine wpAnyH_take (i := 7) (v := ?_) (by simp only [List.getElem?_toArray, List.getElem?_cons_succ, List.getElem?_cons_zero]; rfl) (by kernel_rfl) (by kernel_rfl) (by kernel_rfl) (by exact fun _ _ _ h => h) (Or.inl ⟨by rfl, ?_⟩) (by assumption) ?_
                  rotate_left
                  · (intro w hSw; (try dsimp only at hSw); go_simp; (try with_reducible rfl))
                  (try simp only [Act.put, List.setIfInBounds_toArray, List.set_cons_zero, List.set_cons_succ])
                  refine wpAnyH_take (i := 8) (v := ?_) (by simp only [List.getElem?_toArray, List.getElem?_cons_succ, List.getElem?_cons_zero]; rfl) (by kernel_rfl) (by kernel_rfl) (by kernel_rfl) (by exact fun _ _ _ h => h) (Or.inl ⟨by rfl, ?_⟩) (by assumption) ?_
                  rotate_left
                  · (intro w hSw; (try dsimp only at hSw); go_simp; (try with_reducible rfl))
                  (try simp only [Act.put, List.setIfInBounds_toArray, List.set_cons_zero, List.set_cons_succ])
                  refine wpAnyH_take (i := 9) (v := ?_) (by simp only [List.getElem?_toArray, List.getElem?_cons_succ, List.getElem?_cons_zero]; rfl) (by kernel_rfl) (by kernel_rfl) (by kernel_rfl) (by exact fun _ _ _ h => h) (Or.inl ⟨by rfl, ?_⟩) (by assumption) ?_
                  rotate_left
                  · (intro w hSw; (try dsimp only at hSw); go_simp; (try with_reducible rfl))
                  (try simp only [Act.put, List.setIfInBounds_toArray, List.set_cons_zero, List.set_cons_succ])
                  refine wpAnyH_take (i := 10) (v := ?_) (by simp only [List.getElem?_toArray, List.getElem?_cons_succ, List.getElem?_cons_zero]; rfl) (by kernel_rfl) (by kernel_rfl) (by kernel_rfl) (by exact fun _ _ _ h => h) (Or.inl ⟨by rfl, ?_⟩) (by assumption) ?_
                  rotate_left
                  · (intro w hSw; (try dsimp only at hSw); go_simp; (try with_reducible rfl))
                  (try simp only [Act.put, List.setIfInBounds_toArray, List.set_cons_zero, List.set_cons_succ])
                  refine wpAnyH_take (i := 11) (v := ?_) (by simp only [List.getElem?_toArray, List.getElem?_cons_succ, List.getElem?_cons_zero]; rfl) (by kernel_rfl) (by kernel_rfl) (by kernel_rfl) (by exact fun _ _ _ h => h) (Or.inl ⟨by rfl, ?_⟩) (by assumption) ?_
                  rotate_left
                  · (intro w hSw; (try dsimp only at hSw); go_simp; (try with_reducible rfl))
                  (try simp only [Act.put, List.setIfInBounds_toArray, List.set_cons_zero, List.set_cons_succ])
                  refine wpAnyH_take (i := 12) (v := ?_) (by simp only [List.getElem?_toArray, List.getElem?_cons_succ, List.getElem?_cons_zero]; rfl) (by kernel_rfl) (by kernel_rfl) (by kernel_rfl) (by exact fun _ _ _ h => h) (Or.inl ⟨by rfl, ?_⟩) (by assumption) ?_
                  rotate_left
                  · (intro w hSw; (try dsimp only at hSw); go_simp; (try with_reducible rfl))
                  (try simp only [Act.put, List.setIfInBounds_toArray, List.set_cons_zero, List.set_cons_succ])
                  refine wpAnyH_take (i := 13) (v := ?_) (by simp only [List.getElem?_toArray, List.getElem?_cons_succ, List.getElem?_cons_zero]; rfl) (by kernel_rfl) (by kernel_rfl) (by kernel_rfl) (by exact fun _ _ _ h => h) (Or.inl ⟨by rfl, ?_⟩) (by assumption) ?_
                  rotate_left
                  · (intro w hSw; (try dsimp only at hSw); go_simp; (try with_reducible rfl))
                  (try simp only [Act.put, List.setIfInBounds_toArray, List.set_cons_zero, List.set_cons_succ])
                  refine wpAnyH_ready (rs := [14]) (by kernel_rfl) (by simp) ?_
                  refine AllReadyH.cons (by simp only [List.getElem?_toArray, List.getElem?_cons_succ, List.getElem?_cons_zero]; rfl) (fun K hK => ?_) AllReadyH.nil
                  go_simp
                  refine (HQ9.out ▸ lrule_any r q hlt (by rw [← HOO.out]; exact hlt3) _ (N i) (T i) F L _ TR ht hn2 HNM.out hL hLM).mono ?_
                  rintro e w31 ⟨rfl, b31⟩
                  rw [HFB.out, show rpV (ev r) none = .tuple #[.int .i64 (-1), .int .i64 0] from rfl]
                  go_wp2_with fail
                  replace ht := ht.below b31
                  replace TR := TR.below b31
                  replace CO := CO.below b31
                  replace CQ := CQ.below b31
                  replace CC := CC.below b31
                  replace VM := VM.below b31
                  replace VR := VR.below b31
                  replace BB := BB.trans (b31.mono BB.size)
                  replace BLR := BLR.trans (b31.mono BLR.size)
                  clear b31
                  refine hK.out _ _ ?_ (fun hH1 => ?_)
                  · exact ⟨VM.1, VM.2.1, CC.cell, CO.cell, CQ.cell⟩
                  clear hK K hHeld
                  (try simp only [Act.put, List.setIfInBounds_toArray, List.set_cons_zero, List.set_cons_succ])
                  refine wpAnyH_take (i := 15) (v := ?_) (by simp only [List.getElem?_toArray, List.getElem?_cons_succ, List.getElem?_cons_zero]; rfl) (by kernel_rfl) (by kernel_rfl) (by kernel_rfl) (by exact fun _ _ _ h => h) (Or.inl ⟨by rfl, ?_⟩) (by assumption) ?_
                  rotate_left
                  · (intro w hSw; (try dsimp only at hSw); go_simp; (try with_reducible rfl))
                  (try simp only [Act.put, List.setIfInBounds_toArray, List.set_cons_zero, List.set_cons_succ])
                  refine wpAnyH_take (i := 16) (v := ?_) (by simp only [List.getElem?_toArray, List.getElem?_cons_succ, List.getElem?_cons_zero]; rfl) (by kernel_rfl) (by kernel_rfl) (by kernel_rfl) (by exact fun _ _ _ h => h) (Or.inl ⟨by rfl, ?_⟩) (by assumption) ?_
                  rotate_left
                  · (intro w hSw; (try dsimp only at hSw); go_simp; (try with_reducible rfl))
                  (try simp only [Act.put, List.setIfInBounds_toArray, List.set_cons_zero, List.set_cons_succ])
                  refine wpAnyH_take (i := 17) (v := ?_) (by simp only [List.getElem?_toArray, List.getElem?_cons_succ, List.getElem?_cons_zero]; rfl) (by kernel_rfl) (by kernel_rfl) (by kernel_rfl) (by exact fun _ _ _ h => h) (Or.inl ⟨by rfl, ?_⟩) (by assumption) ?_
                  rotate_left
                  · (intro w hSw; (try dsimp only at hSw); go_simp; (try with_reducible rfl))
                  (try simp only [Act.put, List.setIfInBounds_toArray, List.set_cons_zero, List.set_cons_succ])
                  refine wpAnyH_take (i := 18) (v := ?_) (by simp only [List.getElem?_toArray, List.getElem?_cons_succ, List.getElem?_cons_zero]; rfl) (by kernel_rfl) (by kernel_rfl) (by kernel_rfl) (by exact fun _ _ _ h => h) (Or.inl ⟨by rfl, ?_⟩) (by assumption) ?_
                  rotate_left
                  · (intro w hSw; (try dsimp only at hSw); go_simp; (try with_reducible rfl))
                  (try simp only [Act.put, List.setIfInBounds_toArray, List.set_cons_zero, List.set_cons_succ])
                  refine wpAnyH_take (i := 19) (v := ?_) (by simp only [List.getElem?_toArray, List.getElem?_cons_succ, List.getElem?_cons_zero]; rfl) (by kernel_rfl) (by kernel_rfl) (by kernel_rfl) (by exact fun _ _ _ h => h) (Or.inl ⟨by rfl, ?_⟩) (by assumption) ?_
                  rotate_left
                  · (intro w hSw; (try dsimp only at hSw); go_simp; (try with_reducible rfl))
                  (try simp only [Act.put, List.setIfInBounds_toArray, List.set_cons_zero, List.set_cons_succ])
                  refine wpAnyH_done (by kernel_rfl) ?_ _
                  clear hH1
                  have HQ2 : Hid (∀ j, j < q + 1 → fb (bw F (T i) (N i) r j) (N i) = none) := fun j hj => by
                    by_cases e : j = q
                    · subst e; exact HFB.out
                    · exact HQ.out j (by omega)
                  clear HQ HFB
                  go_wp2
                  go_roundw
                  case rel => exact ⟨q + 1, by omega, by go_num, HQ2, BLR⟩
                  case measure => simp [intOf]; omega
                · rename_i nd
                  have HX : Hid (IsFirst F k N T (some (ev r, i, nd))) := .inr ⟨r, i, ev r, nd, hlt, hlt2, rfl, rl_of_some hlt (by rw [← HOO.out]; exact hlt3) HQ.out hfb, HB.out, HI.out⟩
                  have HFB : Hid (fb (bw F (T i) (N i) r q) (N i) = some nd) := hfb
                  clear hfb
                  have her : ¬ ev r = 0 := by rcases (by omega : r = 0 ∨ r = 1 ∨ r = 2 ∨ r = 3) with rfl | rfl | rfl | rfl <;> decide
                  have BLR := BL
                  clear BL
                  have hDr : Below wr.heap.size wr wr.drew := (Below.refl _ _).drew
                  replace ht := ht.below hDr
                  replace TR := TR.below hDr
                  replace CO := CO.below hDr
                  replace CQ := CQ.below hDr
                  replace CC := CC.below hDr
                  replace VM := VM.below hDr
                  replace VR := VR.below hDr
                  replace BB := BB.trans (hDr.mono BB.size)
                  replace BLR := BLR.trans (hDr.mono BLR.size)
                  clear hDr
                  refine wp_region_held_drew (S := (fun w' => w'.cell? ⟨w.heap.size, 0, none⟩ = some (.int .i64 F) ∧ w'.cell? ⟨w.heap.size, 1, none⟩ = some (.slice (some ⟨b, off, none⟩) k c) ∧ w'.cell? ⟨b, off + i, none⟩ = some (.slice a (N i) d) ∧ w'.cell? ⟨G + 4, r, none⟩ = some (.slice (some ⟨G + r, 0, none⟩) o o) ∧ w'.cell? ⟨G + r, q, none⟩ = some (.int .i64 (W9 : Int)))) (by kernel_rfl) ?_ (fun hHeld => ?_)
                  · exact ⟨VM.1, VM.2.1, CC.cell, CO.cell, CQ.cell⟩
                  generalize wr.drew = W31 at *
                  refine wpAnyH_take (i := 0) (v := ?_) (by simp only [List.getElem?_toArray, List.getElem?_cons_succ, List.getElem?_cons_zero]; rfl) (by kernel_rfl) (by kernel_rfl) (by kernel_rfl) (by exact fun _ _ _ h => h) (Or.inl ⟨by rfl, ?_⟩) (by assumption) ?_
                  rotate_left
                  · (intro w hSw; (try dsimp only at hSw); go_simp; (try with_reducible rfl))
                  (try simp only [Act.put, List.setIfInBounds_toArray, List.set_cons_zero, List.set_cons_succ])
                  refine wpAnyH_take (i := 1) (v := ?_) (by simp only [List.getElem?_toArray, List.getElem?_cons_succ, List.getElem?_cons_zero]; rfl) (by kernel_rfl) (by kernel_rfl) (by kernel_rfl) (by exact fun _ _ _ h => h) (Or.inl ⟨by rfl, ?_⟩) (by assumption) ?_
                  rotate_left
                  · (intro w hSw; (try dsimp only at hSw); go_simp; (try with_reducible rfl))
                  (try simp only [Act.put, List.setIfInBounds_toArray, List.set_cons_zero, List.set_cons_succ])
                  refine wpAnyH_take (i := 2) (v := ?_) (by simp only [List.getElem?_toArray, List.getElem?_cons_succ, List.getElem?_cons_zero]; rfl) (by kernel_rfl) (by kernel_rfl) (by kernel_rfl) (by exact fun _ _ _ h => h) (Or.inl ⟨by rfl, ?_⟩) (by assumption) ?_
                  rotate_left
                  · (intro w hSw; (try dsimp only at hSw); go_simp; (try with_reducible rfl))
                  (try simp only [Act.put, List.setIfInBounds_toArray, List.set_cons_zero, List.set_cons_succ])
                  refine wpAnyH_take (i := 3) (v := ?_) (by simp only [List.getElem?_toArray, List.getElem?_cons_succ, List.getElem?_cons_zero]; rfl) (by kernel_rfl) (by kernel_rfl) (by kernel_rfl) (by exact fun _ _ _ h => h) (Or.inl ⟨by rfl, ?_⟩) (by assumption) ?_
                  rotate_left
                  · (intro w hSw; (try dsimp only at hSw); go_simp; (try with_reducible rfl))
                  (try simp only [Act.put, List.setIfInBounds_toArray, List.set_cons_zero, List.set_cons_succ])
                  refine wpAnyH_take (i := 4) (v := ?_) (by simp only [List.getElem?_toArray, List.getElem?_cons_succ, List.getElem?_cons_zero]; rfl) (by kernel_rfl) (by kernel_rfl) (by kernel_rfl) (by exact fun _ _ _ h => h) (Or.inl ⟨by rfl, ?_⟩) (by assumption) ?_
                  rotate_left
                  · (intro w hSw; (try dsimp only at hSw); go_simp; (try with_reducible rfl))
                  (try simp only [Act.put, List.setIfInBounds_toArray, List.set_cons_zero, List.set_cons_succ])
                  refine wpAnyH_take (i := 5) (v := ?_) (by simp only [List.getElem?_toArray, List.getElem?_cons_succ, List.getElem?_cons_zero]; rfl) (by kernel_rfl) (by kernel_rfl) (by kernel_rfl) (by exact fun _ _ _ h => h) (Or.inl ⟨by rfl, ?_⟩) (by assumption) ?_
                  rotate_left
                  · (intro w hSw; (try dsimp only at hSw); go_simp; (try with_reducible rfl))
                  (try simp only [Act.put, List.setIfInBounds_toArray, List.set_cons_zero, List.set_cons_succ])
                  refine wpAnyH_take (i := 6) (v := ?_) (by simp only [List.getElem?_toArray, List.getElem?_cons_succ, List.getElem?_cons_zero]; rfl) (by kernel_rfl) (by kernel_rfl) (by kernel_rfl) (by exact fun _ _ _ h => h) (Or.inl ⟨by rfl, ?_⟩) (by assumption) ?_
                  rotate_left
                  · (intro w hSw; (try dsimp only at hSw); go_simp; (try with_reducible rfl))
                  (try simp only [Act.put, List.setIfInBounds_toArray, List.set_cons_zero, List.set_cons_succ])
                  refine wpAnyH_take (i := 7) (v := ?_) (by simp only [List.getElem?_toArray, List.getElem?_cons_succ, List.getElem?_cons_zero]; rfl) (by kernel_rfl) (by kernel_rfl) (by kernel_rfl) (by exact fun _ _ _ h => h) (Or.inl ⟨by rfl, ?_⟩) (by assumption) ?_
                  rotate_left
                  · (intro w hSw; (try dsimp only at hSw); go_simp; (try with_reducible rfl))
                  (try simp only [Act.put, List.setIfInBounds_toArray, List.set_cons_zero, List.set_cons_succ])
                  refine wpAnyH_take (i := 8) (v := ?_) (by simp only [List.getElem?_toArray, List.getElem?_cons_succ, List.getElem?_cons_zero]; rfl) (by kernel_rfl) (by kernel_rfl) (by kernel_rfl) (by exact fun _ _ _ h => h) (Or.inl ⟨by rfl, ?_⟩) (by assumption) ?_
                  rotate_left
                  · (intro w hSw; (try dsimp only at hSw); go_simp; (try with_reducible rfl))
                  (try simp only [Act.put, List.setIfInBounds_toArray, List.set_cons_zero, List.set_cons_succ])
                  refine wpAnyH_take (i := 9) (v := ?_) (by simp only [List.getElem?_toArray, List.getElem?_cons_succ, List.getElem?_cons_zero]; rfl) (by kernel_rfl) (by kernel_rfl) (by kernel_rfl) (by exact fun _ _ _ h => h) (Or.inl ⟨by rfl, ?_⟩) (by assumption) ?_
                  rotate_left
                  · (intro w hSw; (try dsimp only at hSw); go_simp; (try with_reducible rfl))
                  (try simp only [Act.put, List.setIfInBounds_toArray, List.set_cons_zero, List.set_cons_succ])
                  refine wpAnyH_take (i := 10) (v := ?_) (by simp only [List.getElem?_toArray, List.getElem?_cons_succ, List.getElem?_cons_zero]; rfl) (by kernel_rfl) (by kernel_rfl) (by kernel_rfl) (by exact fun _ _ _ h => h) (Or.inl ⟨by rfl, ?_⟩) (by assumption) ?_
                  rotate_left
                  · (intro w hSw; (try dsimp only at hSw); go_simp; (try with_reducible rfl))
                  (try simp only [Act.put, List.setIfInBounds_toArray, List.set_cons_zero, List.set_cons_succ])
                  refine wpAnyH_take (i := 11) (v := ?_) (by simp only [List.getElem?_toArray, List.getElem?_cons_succ, List.getElem?_cons_zero]; rfl) (by kernel_rfl) (by kernel_rfl) (by kernel_rfl) (by exact fun _ _ _ h => h) (Or.inl ⟨by rfl, ?_⟩) (by assumption) ?_
                  rotate_left
                  · (intro w hSw; (try dsimp only at hSw); go_simp; (try with_reducible rfl))
                  (try simp only [Act.put, List.setIfInBounds_toArray, List.set_cons_zero, List.set_cons_succ])
                  refine wpAnyH_take (i := 12) (v := ?_) (by simp only [List.getElem?_toArray, List.getElem?_cons_succ, List.getElem?_cons_zero]; rfl) (by kernel_rfl) (by kernel_rfl) (by kernel_rfl) (by exact fun _ _ _ h => h) (Or.inl ⟨by rfl, ?_⟩) (by assumption) ?_
                  rotate_left
                  · (intro w hSw; (try dsimp only at hSw); go_simp; (try with_reducible rfl))
                  (try simp only [Act.put, List.setIfInBounds_toArray, List.set_cons_zero, List.set_cons_succ])
                  refine wpAnyH_take (i := 13) (v := ?_) (by simp only [List.getElem?_toArray, List.getElem?_cons_succ, List.getElem?_cons_zero]; rfl) (by kernel_rfl) (by kernel_rfl) (by kernel_rfl) (by exact fun _ _ _ h => h) (Or.inl ⟨by rfl, ?_⟩) (by assumption) ?_
                  rotate_left
                  · (intro w hSw; (try dsimp only at hSw); go_simp; (try with_reducible rfl))
                  (try simp only [Act.put, List.setIfInBounds_toArray, List.set_cons_zero, List.set_cons_succ])
                  refine wpAnyH_ready (rs := [14]) (by kernel_rfl) (by simp) ?_
                  refine AllReadyH.cons (by simp only [List.getElem?_toArray, List.getElem?_cons_succ, List.getElem?_cons_zero]; rfl) (fun K hK => ?_) AllReadyH.nil
                  go_simp
                  refine (HQ9.out ▸ lrule_any r q hlt (by rw [← HOO.out]; exact hlt3) _ (N i) (T i) F L _ TR ht hn2 HNM.out hL hLM).mono ?_
                  rintro e w31 ⟨rfl, b31⟩
                  rw [HFB.out, show rpV (ev r) (some nd) = .tuple #[.int .i64 (nd : Int), .int .i64 (ev r)] from rfl]
                  go_wp2_with fail
                  replace ht := ht.below b31
                  replace TR := TR.below b31
                  replace CO := CO.below b31
                  replace CQ := CQ.below b31
                  replace CC := CC.below b31
                  replace VM := VM.below b31
                  replace VR := VR.below b31
                  replace BB := BB.trans (b31.mono BB.size)
                  replace BLR := BLR.trans (b31.mono BLR.size)
                  clear b31
                  refine hK.out _ _ ?_ (fun hH1 => ?_)
                  · exact ⟨VM.1, VM.2.1, CC.cell, CO.cell, CQ.cell⟩
                  clear hK K hHeld
                  (try simp only [Act.put, List.setIfInBounds_toArray, List.set_cons_zero, List.set_cons_succ])
                  refine wpAnyH_take (i := 15) (v := ?_) (by simp only [List.getElem?_toArray, List.getElem?_cons_succ, List.getElem?_cons_zero]; rfl) (by kernel_rfl) (by kernel_rfl) (by kernel_rfl) (by exact fun _ _ _ h => h) (Or.inl ⟨by rfl, ?_⟩) (by assumption) ?_
                  rotate_left
                  · (intro w hSw; (try dsimp only at hSw); go_simp; (try with_reducible rfl))
                  (try simp only [Act.put, List.setIfInBounds_toArray, List.set_cons_zero, List.set_cons_succ])
                  refine wpAnyH_take (i := 16) (v := ?_) (by simp only [List.getElem?_toArray, List.getElem?_cons_succ, List.getElem?_cons_zero]; rfl) (by kernel_rfl) (by kernel_rfl) (by kernel_rfl) (by exact fun _ _ _ h => h) (Or.inl ⟨by rfl, ?_⟩) (by assumption) ?_
                  rotate_left
                  · (intro w hSw; (try dsimp only at hSw); go_simp; (try with_reducible rfl))
                  (try simp only [Act.put, List.setIfInBounds_toArray, List.set_cons_zero, List.set_cons_succ])
                  refine wpAnyH_take (i := 17) (v := ?_) (by simp only [List.getElem?_toArray, List.getElem?_cons_succ, List.getElem?_cons_zero]; rfl) (by kernel_rfl) (by kernel_rfl) (by kernel_rfl) (by exact fun _ _ _ h => h) (Or.inl ⟨by rfl, ?_⟩) (by assumption) ?_
                  rotate_left
                  · (intro w hSw; (try dsimp only at hSw); go_simp; (try with_reducible rfl))
                  (try simp only [Act.put, List.setIfInBounds_toArray, List.set_cons_zero, List.set_cons_succ])
                  refine wpAnyH_take (i := 18) (v := ?_) (by simp only [List.getElem?_toArray, List.getElem?_cons_succ, List.getElem?_cons_zero]; rfl) (by kernel_rfl) (by kernel_rfl) (by kernel_rfl) (by exact fun _ _ _ h => h) (Or.inl ⟨by rfl, ?_⟩) (by assumption) ?_
                  rotate_left
                  · (intro w hSw; (try dsimp only at hSw); go_simp; (try with_reducible rfl))
                  (try simp only [Act.put, List.setIfInBounds_toArray, List.set_cons_zero, List.set_cons_succ])
                  refine wpAnyH_take (i := 19) (v := ?_) (by simp only [List.getElem?_toArray, List.getElem?_cons_succ, List.getElem?_cons_zero]; rfl) (by kernel_rfl) (by kernel_rfl) (by kernel_rfl) (by exact fun _ _ _ h => h) (Or.inl ⟨by rfl, ?_⟩) (by assumption) ?_
                  rotate_left
                  · (intro w hSw; (try dsimp only at hSw); go_simp; (try with_reducible rfl))
                  (try simp only [Act.put, List.setIfInBounds_toArray, List.set_cons_zero, List.set_cons_succ])
                  refine wpAnyH_done (by kernel_rfl) ?_ _
                  clear hH1
                  obtain ⟨er, hevr⟩ : ∃ z, ev r = z := ⟨_, rfl⟩
                  rw [hevr] at her HX ⊢
                  clear hevr HB HI HQ
                  have herb : (er != 0) = true := by simp; exact her
                  obtain ⟨⟨q1, q2, q3, q4, q5, q6⟩, q7, q8⟩ := id VR
                  go_wp2
                  (try simp only [Exit.inBlock, Exit.then])
                  refine bodyPost_ret (v := .agg #[.int .i64 er, .int .i64 0, .int .i64 (i : Int), .int .i64 (nd : Int)]) (by simp [results, go_sem, q1, q2, q3, q7]) rfl ?_
                  exact ⟨_, rfl, .inr ⟨HM.out, _, HX.out, rfl⟩, below_store4 BB (by omega) _ _ _ _⟩
              · clear XI0
                obtain rfl : q = o := by omega
                have g4 : ¬ (q : Int) < (q : Int) := by omega
                have HI2 : Hid (∀ i', i' < i + 1 → rl F (T i') (N i') r = none) := fun i' h => by
                  by_cases e : i' = i
                  · subst e; exact rl_of_none hlt (fun j hj => HQ.out j (by rw [HOO.out]; exact hj))
                  · exact HI.out i' (by omega)
                clear HI HQ
                go_wp2
                go_roundw
                case rel => exact ⟨i + 1, by omega, by go_num, HI2, BL⟩
                case measure => simp [intOf]; omega
          · have HB2 : Hid (∀ r', r' < r + 1 → ∀ i, i < k → rl F (T i) (N i) r' = none) := fun r' h i' hi' => by
              by_cases e : r' = r
              · subst e; exact HI.out i' (by omega)
              · exact HB.out r' (by omega) i' hi'
            clear HB HI
            obtain rfl : i = k := by omega
            have g2 : ¬ (i : Int) < (i : Int) := by omega
            go_wp2
            go_roundw
            case rel => exact ⟨r + 1, by omega, by go_num, HB2, BL⟩
            case measure => simp [intOf]; omega
      · obtain rfl : r = 4 := by omega
        have VR := VR0.below BL
        have BB := BB0.out.trans (BL.mono BB0.out.size)
        obtain ⟨⟨q1, q2, q3, q4, q5, q6⟩, q7, q8⟩ := id VR
        go_wp2
        (try simp only [Exit.inBlock, Exit.then])
        refine bodyPost_ret (v := .agg #[.int .i64 0, .int .i64 0, .int .i64 0, .int .i64 0]) (by simp [results, go_sem, q1, q2, q3, q7]) rfl ?_
        exact ⟨_, rfl, .inr ⟨HM.out, none, .inl ⟨rfl, HB.out⟩, rfl⟩, below_store4 BB (by omega) _ _ _ _⟩

theorem one_cell (w : World) (u : Value) (t : TypeId) : RowAt 1 (w.alloc (.cells #[u] t)) (.slice (some ⟨w.heap.size, 0, none⟩) 1 1) 1 (fun _ _ => u) := by
  refine ⟨_, _, rfl, Nat.le_refl _, by omega, fun _ => ⟨_, _, rfl, fun i hi j hj => ?_⟩⟩
  obtain rfl : i = 0 := by omega
  obtain rfl : j = 0 := by omega
  rw [cell_of_row _ _ _ _ _ _ (heap_alloc_new w (.cells #[u] t))]
  rfl
theorem one_tree {w : World} {v : Value} {n : Nat} {t : Nat → Nd} {L : Nat} (hv : TRow w v n t L) (ty : TypeId) : MRow (w.alloc (.cells #[v] ty)) (.slice (some ⟨w.heap.size, 0, none⟩) 1 1) 1 (fun _ => n) (fun _ => t) L :=
  ⟨_, one_cell w v ty, fun _ _ => hv.below ((Below.refl _ _).alloc (Nat.le_refl _) _)⟩
theorem one_raw {w : World} {v : Value} {n : Nat} {t : Nat → Nd} {L : Nat} (hv : TRaw w v n t L) (ty : TypeId) : MRaw (w.alloc (.cells #[v] ty)) (.slice (some ⟨w.heap.size, 0, none⟩) 1 1) 1 (fun _ => n) (fun _ => t) L :=
  ⟨_, one_cell w v ty, fun _ _ => hv.below ((Below.refl _ _).alloc (Nat.le_refl _) _)⟩
set_option maxRecDepth 100000 in
set_option maxHeartbeats 4000000 in
theorem tree_at (F : Int) (v : Value) (n : Nat) (t : Nat → Nd) (L : Nat) (w : World) (hv : TRow w v n t L) (ht : Tab w) (hL : 1 ≤ L) (hLM : L ≤ 30000) :
    Calls Tryd.prog 20 #[v, .int .i64 F] w fun e w' => ∃ a s d : Int, e = .returned (.bool (decide (a = 0))) ∧ ChkOut F 1 (fun _ => n) (fun _ => t) (.agg #[.int .i64 a, .int .i64 0, .int .i64 s, .int .i64 d]) ∧ Below w.heap.size w w' := by
  obtain ⟨ao, c, rfl, hnc, hc63⟩ := hv.open
  have BB : Below w.heap.size w w := Below.refl _ _
  have M1 := one_tree hv 22
  have hA : Below w.heap.size w (w.alloc (.cells #[.slice ao n c] 22)) := (Below.refl _ _).alloc (Nat.le_refl _) _
  have ht1 := ht.below hA
  go_enter Tryd.func20, Tryd.ntmps20
  go_wp2_with fail
  refine (ok_at F _ 1 (fun _ => n) (fun _ => t) L _ M1 ht1 hL hLM).mono ?_
  rintro e w1 ⟨a, s, d, rfl, HC, b1⟩
  have HCC : Hid (ChkOut F 1 (fun _ => n) (fun _ => t) (.agg #[.int .i64 a, .int .i64 0, .int .i64 s, .int .i64 d])) := HC
  have BB1 := hA.trans (b1.mono hA.size)
  clear HC b1 M1 ht1 hA
  generalize hd : decide (a = 0) = dd
  have HD : Hid (decide (a = 0) = dd) := hd
  clear hd
  go_wp2
  go_ret
  exact ⟨a, s, d, by rw [HD.out]; rfl, HCC.out, BB1⟩
end Go.Proofs.YtgddiimnpliolaaDoor

namespace Go.Proofs.YtgddiimnpliolaaDoor
open Go.ChangeShapes Go.WideShapes Go.ChangeAt Go.RowKit
set_option linter.unusedVariables false
structure Cl where
  miss : Bool
  val : Rat
def CellRaw (w : World) (el : Nat → Value) (d : Cl) (K : Nat) : Prop := el 0 = .bool d.miss ∧ RawN w (el 1) (el 2) (el 3) d.val K
def CellAt (w : World) (el : Nat → Value) (d : Cl) (L : Nat) : Prop := el 0 = .bool d.miss ∧ AtN w (el 1) (el 2) (el 3) d.val L
theorem CellRaw.below {w w' : World} {el : Nat → Value} {d : Cl} {K : Nat} (h : CellRaw w el d K) (hb : Below w.heap.size w w') : CellRaw w' el d K := ⟨h.1, h.2.below hb⟩
theorem CellAt.below {w w' : World} {el : Nat → Value} {d : Cl} {L : Nat} (h : CellAt w el d L) (hb : Below w.heap.size w w') : CellAt w' el d L := ⟨h.1, h.2.below hb⟩
theorem CellAt.keepL {w w' : World} {el : Nat → Value} {d : Cl} {L : Nat} (h : CellAt w el d L) (hk : KeepQ IsLimb w w') : CellAt w' el d L := ⟨h.1, h.2.keepL hk⟩
theorem CellAt.congr {w : World} {el el' : Nat → Value} {d : Cl} {L : Nat} (h : CellAt w el d L) (e : ∀ j, j < 4 → el j = el' j) : CellAt w el' d L := by
  unfold CellAt at h ⊢
  rw [← e 0 (by omega), ← e 1 (by omega), ← e 2 (by omega), ← e 3 (by omega)]
  exact h
theorem AtN.mono {w : World} {x y z : Value} {q : Rat} {L L' : Nat} (h : AtN w x y z q L) (hL : L ≤ L') : AtN w x y z q L' := by
  obtain ⟨p, ao, m, c, bo, k, d, a, b, e, r⟩ := h
  exact ⟨p, ao, m, c, bo, k, d, a, b, e, r.le hL⟩
theorem CellAt.mono {w : World} {el : Nat → Value} {d : Cl} {L L' : Nat} (h : CellAt w el d L) (hL : L ≤ L') : CellAt w el d L' := ⟨h.1, h.2.mono hL⟩
def CRaw (w : World) (v : Value) (n : Nat) (t : Nat → Cl) (K : Nat) : Prop := ∃ el, RowAt 4 w v n el ∧ ∀ i, i < n → CellRaw w (el i) (t i) K
def CRow (w : World) (v : Value) (n : Nat) (t : Nat → Cl) (L : Nat) : Prop := ∃ el, RowAt 4 w v n el ∧ ∀ i, i < n → CellAt w (el i) (t i) L
theorem CRaw.below {w w' : World} {v : Value} {n : Nat} {t : Nat → Cl} {K : Nat} (h : CRaw w v n t K) (hb : Below w.heap.size w w') : CRaw w' v n t K := by
  obtain ⟨el, h1, h2⟩ := h
  exact ⟨el, h1.below hb, fun i hi => (h2 i hi).below hb⟩
theorem CRow.below {w w' : World} {v : Value} {n : Nat} {t : Nat → Cl} {L : Nat} (h : CRow w v n t L) (hb : Below w.heap.size w w') : CRow w' v n t L := by
  obtain ⟨el, h1, h2⟩ := h
  exact ⟨el, h1.below hb, fun i hi => (h2 i hi).below hb⟩
theorem CRow.open {w : World} {v : Value} {n : Nat} {t : Nat → Cl} {L : Nat} (h : CRow w v n t L) : ∃ a c, v = .slice a n c ∧ n ≤ c ∧ c ≤ 9223372036854775807 := by
  obtain ⟨el, ⟨a, c, h1, h2, h3, _⟩, _⟩ := h
  exact ⟨a, c, h1, h2, h3⟩
theorem CRaw.open {w : World} {v : Value} {n : Nat} {t : Nat → Cl} {L : Nat} (h : CRaw w v n t L) : ∃ a c, v = .slice a n c ∧ n ≤ c ∧ c ≤ 9223372036854775807 := by
  obtain ⟨el, ⟨a, c, h1, h2, h3, _⟩, _⟩ := h
  exact ⟨a, c, h1, h2, h3⟩
theorem CRow.at {w : World} {v : Value} {n : Nat} {t : Nat → Cl} {L : Nat} (h : CRow w v n t L) {i : Nat} (hi : i < n) :
    ∃ b off c p1 a1 n1 c1 b1 m1 d1, v = .slice (some ⟨b, off, none⟩) n c ∧ n ≤ c ∧ c ≤ 9223372036854775807 ∧
      w.cell? ⟨b, off + i * 4, none⟩ = some (.bool (t i).miss) ∧ w.cell? ⟨b, off + i * 4 + 1, none⟩ = some (.bool p1) ∧ w.cell? ⟨b, off + i * 4 + 2, none⟩ = some (.slice a1 n1 c1) ∧ w.cell? ⟨b, off + i * 4 + 3, none⟩ = some (.slice b1 m1 d1) ∧
      RatAt w (.agg #[.bool p1, .slice a1 n1 c1, .slice b1 m1 d1]) (t i).val L := by
  obtain ⟨el, ⟨a, c, h1, h2, h3, h4⟩, h5⟩ := h
  obtain ⟨b, off, rfl, hc⟩ := h4 (by omega)
  obtain ⟨e0, p1, a1, n1, c1, b1, m1, d1, e1, e2, e3, r1⟩ := h5 i hi
  have hc := hc i hi
  exact ⟨b, off, c, p1, a1, n1, c1, b1, m1, d1, h1, h2, h3, (hc 0 (by omega)).trans (by rw [e0]), (hc 1 (by omega)).trans (by rw [e1]), (hc 2 (by omega)).trans (by rw [e2]), (hc 3 (by omega)).trans (by rw [e3]), r1⟩
theorem CRaw.at {w : World} {v : Value} {n : Nat} {t : Nat → Cl} {K : Nat} (h : CRaw w v n t K) {i : Nat} (hi : i < n) :
    ∃ b off c p1 a1 n1 c1 b1 m1 d1 f1 g1, v = .slice (some ⟨b, off, none⟩) n c ∧ n ≤ c ∧ c ≤ 9223372036854775807 ∧
      w.cell? ⟨b, off + i * 4, none⟩ = some (.bool (t i).miss) ∧ w.cell? ⟨b, off + i * 4 + 1, none⟩ = some (.bool p1) ∧ w.cell? ⟨b, off + i * 4 + 2, none⟩ = some (.slice a1 n1 c1) ∧ w.cell? ⟨b, off + i * 4 + 3, none⟩ = some (.slice b1 m1 d1) ∧
      Raw w (.slice a1 n1 c1) n1 f1 ∧ Raw w (.slice b1 m1 d1) m1 g1 ∧ (t i).val = mkRat (zof p1 (num f1 (min n1 K))) (num g1 (min m1 K)) := by
  obtain ⟨el, ⟨a, c, h1, h2, h3, h4⟩, h5⟩ := h
  obtain ⟨b, off, rfl, hc⟩ := h4 (by omega)
  obtain ⟨e0, p1, a1, n1, c1, b1, m1, d1, f1, g1, e1, e2, e3, r1⟩ := h5 i hi
  have hc := hc i hi
  exact ⟨b, off, c, p1, a1, n1, c1, b1, m1, d1, f1, g1, h1, h2, h3, (hc 0 (by omega)).trans (by rw [e0]), (hc 1 (by omega)).trans (by rw [e1]), (hc 2 (by omega)).trans (by rw [e2]), (hc 3 (by omega)).trans (by rw [e3]), r1⟩
theorem CRow.mono {w : World} {v : Value} {n : Nat} {t : Nat → Cl} {L L' : Nat} (h : CRow w v n t L) (hL : L ≤ L') : CRow w v n t L' := by
  obtain ⟨el, h1, h2⟩ := h
  exact ⟨el, h1, fun i hi => (h2 i hi).mono hL⟩
theorem CRow.congr {w : World} {v : Value} {n : Nat} {t t' : Nat → Cl} {L : Nat} (h : CRow w v n t L) (e : ∀ i, i < n → t i = t' i) : CRow w v n t' L := by
  obtain ⟨el, h1, h2⟩ := h
  exact ⟨el, h1, fun i hi => e i hi ▸ h2 i hi⟩
def ARaw (w : World) (v : Value) (k : Nat) (N : Nat → Nat) (t : Nat → Nat → Cl) (K : Nat) : Prop := ∃ el, RowAt 1 w v k el ∧ ∀ i, i < k → CRaw w (el i 0) (N i) (t i) K
def ARow (w : World) (v : Value) (k : Nat) (N : Nat → Nat) (t : Nat → Nat → Cl) (L : Nat) : Prop := ∃ el, RowAt 1 w v k el ∧ ∀ i, i < k → CRow w (el i 0) (N i) (t i) L
theorem ARaw.below {w w' : World} {v : Value} {k : Nat} {N : Nat → Nat} {t : Nat → Nat → Cl} {K : Nat} (h : ARaw w v k N t K) (hb : Below w.heap.size w w') : ARaw w' v k N t K := by
  obtain ⟨el, h1, h2⟩ := h
  exact ⟨el, h1.below hb, fun i hi => (h2 i hi).below hb⟩
theorem ARow.below {w w' : World} {v : Value} {k : Nat} {N : Nat → Nat} {t : Nat → Nat → Cl} {L : Nat} (h : ARow w v k N t L) (hb : Below w.heap.size w w') : ARow w' v k N t L := by
  obtain ⟨el, h1, h2⟩ := h
  exact ⟨el, h1.below hb, fun i hi => (h2 i hi).below hb⟩
theorem ARow.open {w : World} {v : Value} {k : Nat} {N : Nat → Nat} {t : Nat → Nat → Cl} {L : Nat} (h : ARow w v k N t L) : ∃ a c, v = .slice a k c ∧ k ≤ c ∧ c ≤ 9223372036854775807 := by
  obtain ⟨el, ⟨a, c, h1, h2, h3, _⟩, _⟩ := h
  exact ⟨a, c, h1, h2, h3⟩
theorem ARaw.open {w : World} {v : Value} {k : Nat} {N : Nat → Nat} {t : Nat → Nat → Cl} {L : Nat} (h : ARaw w v k N t L) : ∃ a c, v = .slice a k c ∧ k ≤ c ∧ c ≤ 9223372036854775807 := by
  obtain ⟨el, ⟨a, c, h1, h2, h3, _⟩, _⟩ := h
  exact ⟨a, c, h1, h2, h3⟩
theorem ARow.at {w : World} {v : Value} {k : Nat} {N : Nat → Nat} {t : Nat → Nat → Cl} {L : Nat} (h : ARow w v k N t L) {i : Nat} (hi : i < k) : ∃ b off c a d, v = .slice (some ⟨b, off, none⟩) k c ∧ k ≤ c ∧ w.cell? ⟨b, off + i, none⟩ = some (.slice a (N i) d) ∧ CRow w (.slice a (N i) d) (N i) (t i) L := by
  obtain ⟨el, ⟨a, c, h1, h2, h3, h4⟩, h5⟩ := h
  obtain ⟨b, off, rfl, hc⟩ := h4 (by omega)
  obtain ⟨a, d, e, _⟩ := (h5 i hi).open
  have := hc i hi 0 (by omega)
  rw [Nat.mul_one, Nat.add_zero, e] at this
  exact ⟨b, off, c, a, d, h1, h2, this, e ▸ h5 i hi⟩
theorem ARaw.at {w : World} {v : Value} {k : Nat} {N : Nat → Nat} {t : Nat → Nat → Cl} {L : Nat} (h : ARaw w v k N t L) {i : Nat} (hi : i < k) : ∃ b off c a d, v = .slice (some ⟨b, off, none⟩) k c ∧ k ≤ c ∧ w.cell? ⟨b, off + i, none⟩ = some (.slice a (N i) d) ∧ CRaw w (.slice a (N i) d) (N i) (t i) L := by
  obtain ⟨el, ⟨a, c, h1, h2, h3, h4⟩, h5⟩ := h
  obtain ⟨b, off, rfl, hc⟩ := h4 (by omega)
  obtain ⟨a, d, e, _⟩ := (h5 i hi).open
  have := hc i hi 0 (by omega)
  rw [Nat.mul_one, Nat.add_zero, e] at this
  exact ⟨b, off, c, a, d, h1, h2, this, e ▸ h5 i hi⟩
theorem cells4 {l : List Value} (h : l.length = 4) : ∃ x0 x1 x2 x3, l = [x0, x1, x2, x3] := by
  match l, h with
  | [x0, x1, x2, x3], _ => exact ⟨x0, x1, x2, x3, rfl⟩
theorem cells_cell : Tryd.prog.cellsOf 49 = 4 := by kernel_rfl
set_option maxRecDepth 100000 in
theorem trod_cell {H : Type} {enc : TypeId × Value → H} {W : World} {base n : Nat} {x0 x1 x2 x3 : Value} {y : DataW H × List MemPlace} (K : Nat) (h : DataW.trod enc Tryd.prog W base (fun _ => true) true n 49 [x0, x1, x2, x3] = some y) :
    ∃ d : Cl, CellRaw W (fun j => [x0, x1, x2, x3].getD j undef) d K := by
  obtain ⟨y0, y1, m, hx, _, hy0, hy1⟩ := trod_struct2 Tryd.underlying49 h
  obtain ⟨b, e0, _⟩ := DataW.trod_bool Tryd.underlying4 hy0
  simp [cells_bool] at e0
  obtain ⟨q, r⟩ := trod_rat3 (c0 := x1) (c1 := x2) (c2 := x3) K (by simpa [cells_bool, cells_wrat] using hy1)
  exact ⟨⟨b, q⟩, e0, r⟩
set_option maxRecDepth 100000 in
theorem trod_cells {H : Type} {enc : TypeId × Value → H} {W : World} {base fuel : Nat} {c : Value} {y : DataW H × List MemPlace} (K : Nat) (hf : DataW.trod enc Tryd.prog W base (fun _ => true) true fuel 50 [c] = some y) : ∃ n t, CRaw W c n t K := by
  rcases Go.Deep.open_slice Tryd.underlying50 hf with ⟨hcs, _⟩ | ⟨x, l, c', m, n, D, Pl, hcs, _, hl, hm, hmm, _, hall⟩
  · simp only [List.cons.injEq, and_true] at hcs
    subst hcs
    exact ⟨0, fun _ => ⟨false, 0⟩, fun _ _ => .bool false, RowAt.nil _ _ _, fun i hi => by omega⟩
  · simp only [List.cons.injEq, and_true] at hcs
    subst hcs
    rw [if_pos rfl] at hmm
    subst hmm
    rw [cells_cell] at hall
    have each : ∀ i, ∃ y : Cl × (Nat → Value), i < l → (∀ j, j < 4 → W.cell? (x.add (i * 4 + j)) = some (y.2 j)) ∧ CellRaw W y.2 y.1 K := by
      intro i
      by_cases hi : i < l
      · obtain ⟨cs, h1, h2⟩ := hall i (by omega)
        obtain ⟨_, hlen, hcell⟩ := World.cells?_some h1
        obtain ⟨x0, x1, x2, x3, rfl⟩ := cells4 hlen
        obtain ⟨d, hd⟩ := trod_cell K h2
        refine ⟨(d, _), fun _ => ⟨fun j hj => ?_, hd⟩⟩
        have k := hcell j (by omega)
        rw [Go.Deep.add_add] at k
        rw [k]
        rcases (by omega : j = 0 ∨ j = 1 ∨ j = 2 ∨ j = 3) with rfl | rfl | rfl | rfl <;> rfl
      · exact ⟨(⟨false, 0⟩, fun _ => .bool false), fun h => absurd h hi⟩
    obtain ⟨Y, hY⟩ := Classical.axiomOfChoice each
    refine ⟨l, fun i => (Y i).1, fun i => (Y i).2, ⟨_, _, rfl, hl, by unfold maxLen at hm; omega, fun h0 => ?_⟩, fun i hi => (hY i hi).2⟩
    obtain ⟨b, off, spot⟩ := x
    have hc := (hY 0 (by omega)).1 0 (by omega)
    have hspot : spot = none := by simpa [Addr.add] using World.cell?_spot hc
    subst hspot
    refine ⟨b, off, rfl, fun i hi j hj => ?_⟩
    have := (hY i hi).1 j hj
    rw [add_off] at this
    rw [Nat.add_assoc]
    exact this
set_option maxRecDepth 100000 in
theorem open_cells {H : Type} {enc : TypeId × Value → H} {W : World} {base b0 : Nat} {r : Reach} {v : Value} {d : DataW H} {ps : List MemPlace} (K : Nat)
    (hval : Value.okWide Tryd.prog W r b0 50 v) (h : DataW.Trod enc Tryd.prog W base (fun _ => true) true 50 v d ps) : ∃ n t, CRaw W v n t K := by
  obtain ⟨a, len, cap, rfl⟩ := okWide_slice Tryd.underlying50 hval
  obtain ⟨fuel, hf⟩ := h
  exact trod_cells K hf
set_option maxRecDepth 100000 in
theorem open_cell {H : Type} {enc : TypeId × Value → H} {W : World} {base b0 : Nat} {r : Reach} {v : Value} {d : DataW H} {ps : List MemPlace}
    (hval : Value.okWide Tryd.prog W r b0 49 v) (h : DataW.Trod enc Tryd.prog W base (fun _ => true) true 49 v d ps) : ∃ miss p ao n c bo m e f g, v = .agg #[.bool miss, .bool p, .slice ao n c, .slice bo m e] ∧ Raw W (.slice ao n c) n f ∧ Raw W (.slice bo m e) m g := by
  obtain ⟨cs, rfl, hsz⟩ := okWide_struct Tryd.underlying49 hval
  rw [cells_cell] at hsz
  obtain ⟨c0, c1, c2, c3, rfl⟩ : ∃ a b c d, cs = #[a, b, c, d] := by
    obtain ⟨l⟩ := cs
    obtain ⟨a, b, c, d, e⟩ := cells4 (l := l) hsz
    exact ⟨a, b, c, d, by rw [e]⟩
  obtain ⟨fuel, hf⟩ := h
  obtain ⟨dd, e0, p, ao, n, c, bo, m, e, f, g, e1, e2, e3, r1, r2, _⟩ := trod_cell 3 hf
  have e0 : c0 = .bool dd.miss := e0
  have e1 : c1 = .bool p := e1
  have e2 : c2 = .slice ao n c := e2
  have e3 : c3 = .slice bo m e := e3
  exact ⟨dd.miss, p, ao, n, c, bo, m, e, f, g, by rw [e0, e1, e2, e3], r1, r2⟩
def COwn (B : Nat) (w : World) (v : Value) (n : Nat) (t : Nat → Cl) (L : Nat) : Prop := ∃ cs : List Value, w.ownsRow B 49 4 v n cs ∧ (∀ g, v.ownBlock = some g → PureB IsLimb w g) ∧ ∀ i, i < n → CellAt w (fun j => cs.getD (i * 4 + j) undef) (t i) L
theorem COwn.nil (B : Nat) (w : World) (t : Nat → Cl) (L : Nat) : COwn B w (.slice none 0 0) 0 t L := ⟨[], World.ownsRow_nil _ _ _ _, fun g h => by simp [Value.ownBlock] at h, fun i hi => by omega⟩
theorem COwn.le {B B' : Nat} {w : World} {v : Value} {n : Nat} {t : Nat → Cl} {L : Nat} (h : COwn B w v n t L) (hb : B' ≤ B) : COwn B' w v n t L := by
  obtain ⟨cs, h1, h2, h3⟩ := h
  exact ⟨cs, owns_le h1 hb, h2, h3⟩
theorem COwn.later {B : Nat} {w w' : World} {v : Value} {n : Nat} {t : Nat → Cl} {L : Nat} (h : COwn B w v n t L) (hb : Below w.heap.size w w') : COwn B w' v n t L := by
  obtain ⟨cs, h1, h2, h3⟩ := h
  exact ⟨cs, owns_later h1 hb, fun g hg => (h2 g hg).below hb (World.ownsRow.lt h1 g hg).2, fun i hi => (h3 i hi).below hb⟩
theorem COwn.form {B : Nat} {w : World} {v : Value} {n : Nat} {t : Nat → Cl} {L : Nat} (h : COwn B w v n t L) : ∃ a c, v = .slice a n c := by
  obtain ⟨cs, h1, _⟩ := h
  rcases h1.2 with ⟨rfl, rfl⟩ | ⟨g, c, _, rfl, _⟩
  · exact ⟨none, 0, rfl⟩
  · exact ⟨_, c, rfl⟩
theorem COwn.row {B : Nat} {w : World} {v : Value} {n : Nat} {t : Nat → Cl} {L : Nat} (h : COwn B w v n t L) : CRow w v n t L := by
  obtain ⟨cs, h1, _, h3⟩ := h
  refine ⟨fun i j => cs.getD (i * 4 + j) undef, ?_, h3⟩
  have hl := h1.1
  rcases h1.2 with ⟨rfl, rfl⟩ | ⟨g, c, cur, rfl, hB, hg, hc, hm, rest⟩
  · exact RowAt.nil _ _ _
  · refine ⟨_, c, rfl, hc, by unfold maxLen at hm; omega, fun _ => ⟨g, 0, rfl, fun i hi j hj => ?_⟩⟩
    have hlt : i * 4 + j < cs.length := by rw [hl]; omega
    rw [Nat.zero_add]
    exact owns_cell h1 (by show cs[i * 4 + j]? = some (cs.getD (i * 4 + j) undef); rw [List.getD_eq_getElem?_getD, List.getElem?_eq_getElem hlt]; rfl)
theorem COwn.more {B : Nat} {w w' : World} {v v' : Value} {n : Nat} {t : Nat → Cl} {L : Nat} {cs news : List Value} (h1 : w'.ownsRow B 49 4 v' (n + 1) (cs ++ news)) (hl : cs.length = n * 4) (hp : ∀ g, v'.ownBlock = some g → PureB IsLimb w' g) (hk : KeepQ IsLimb w w') (h3 : ∀ i, i < n → CellAt w (fun j => cs.getD (i * 4 + j) undef) (t i) L) (hn : CellAt w (fun j => news.getD j undef) (t n) L) : COwn B w' v' (n + 1) t L := by
  refine ⟨_, h1, hp, fun i hi => ?_⟩
  by_cases e : i = n
  · subst e
    refine (hn.keepL hk).congr (fun j hj => ?_)
    simp only [List.getD_eq_getElem?_getD]
    rw [List.getElem?_append_right (by omega), hl, Nat.add_sub_cancel_left]
  · refine ((h3 i (by omega)).keepL hk).congr (fun j hj => ?_)
    simp only [List.getD_eq_getElem?_getD]
    rw [List.getElem?_append_left (by omega)]
theorem COwn.kept {B : Nat} {w w' : World} {v : Value} {n : Nat} {t : Nat → Cl} {L : Nat} {row : Option Nat} (h : COwn B w v n t L) (hg : w.grownBy w' row) (hk : KeepQ IsLimb w w') (hne : v.ownBlock = none ∨ v.ownBlock ≠ row) : COwn B w' v n t L := by
  obtain ⟨cs, h1, h2, h3⟩ := h
  refine ⟨cs, h1.kept hg hne, fun g hgg o u hu => h2 g hgg o u ?_, fun i hi => (h3 i hi).keepL hk⟩
  have hlt := (World.ownsRow.lt h1 g hgg).2
  have hne2 : some g ≠ row := fun e => by
    rcases hne with a | a
    · rw [hgg] at a; cases a
    · exact a (hgg.trans e)
  rw [← World.cell?_of_block (w := w) (hg.block g hlt hne2)]; exact hu
theorem COwn.set {B : Nat} {w : World} {v : Value} {n : Nat} {t : Nat → Cl} {L : Nat} (h : COwn B w v n t L) {a : Addr} (ha : a.block < B) (u : Value) (hk : KeepQ IsLimb w (w.setCell a u)) : COwn B (w.setCell a u) v n t L := by
  obtain ⟨cs, h1, h2, h3⟩ := h
  refine ⟨cs, ownsRow_setCell_below h1 ha u, fun g hgg o x hx => h2 g hgg o x ?_, fun i hi => (h3 i hi).keepL hk⟩
  have hlt := (World.ownsRow.lt h1 g hgg).1
  rwa [World.cell?_setCell_other _ _ _ _ (fun e => by rw [e] at ha; simp at ha; omega)] at hx
def AOwn (B : Nat) (w : World) (v : Value) (k : Nat) (N : Nat → Nat) (T : Nat → Nat → Cl) (L : Nat) : Prop := ∃ us : List Value, w.ownsRow B 50 1 v k us ∧ (∀ g, v.ownBlock = some g → PureB IsLimb w g) ∧ ∀ i, i < k → ∃ u, us[i]? = some u ∧ COwn B w u (N i) (T i) L
theorem AOwn.nil (B : Nat) (w : World) (N : Nat → Nat) (T : Nat → Nat → Cl) (L : Nat) : AOwn B w (.slice none 0 0) 0 N T L := ⟨[], World.ownsRow_nil _ _ _ _, fun g h => by simp [Value.ownBlock] at h, fun i hi => by omega⟩
theorem AOwn.later {B : Nat} {w w' : World} {v : Value} {k : Nat} {N : Nat → Nat} {T : Nat → Nat → Cl} {L : Nat} (h : AOwn B w v k N T L) (hb : Below w.heap.size w w') : AOwn B w' v k N T L := by
  obtain ⟨us, h1, h2, h3⟩ := h
  exact ⟨us, owns_later h1 hb, fun g hg => (h2 g hg).below hb (World.ownsRow.lt h1 g hg).2, fun i hi => let ⟨u, a, b⟩ := h3 i hi; ⟨u, a, b.later hb⟩⟩
theorem AOwn.set {B : Nat} {w : World} {v : Value} {k : Nat} {N : Nat → Nat} {T : Nat → Nat → Cl} {L : Nat} (h : AOwn B w v k N T L) {a : Addr} (ha : a.block < B) (u : Value) (hk : KeepQ IsLimb w (w.setCell a u)) : AOwn B (w.setCell a u) v k N T L := by
  obtain ⟨us, h1, h2, h3⟩ := h
  refine ⟨us, ownsRow_setCell_below h1 ha u, fun g hgg o x hx => h2 g hgg o x ?_, fun i hi => let ⟨y, a1, b1⟩ := h3 i hi; ⟨y, a1, b1.set ha u hk⟩⟩
  have hlt := (World.ownsRow.lt h1 g hgg).1
  rwa [World.cell?_setCell_other _ _ _ _ (fun e => by rw [e] at ha; simp at ha; omega)] at hx
theorem AOwn.form {B : Nat} {w : World} {v : Value} {k : Nat} {N : Nat → Nat} {T : Nat → Nat → Cl} {L : Nat} (h : AOwn B w v k N T L) : ∃ a c, v = .slice a k c := by
  obtain ⟨cs, h1, _⟩ := h
  rcases h1.2 with ⟨rfl, rfl⟩ | ⟨g, c, _, rfl, _⟩
  · exact ⟨none, 0, rfl⟩
  · exact ⟨_, c, rfl⟩
theorem AOwn.row {B : Nat} {w : World} {v : Value} {k : Nat} {N : Nat → Nat} {T : Nat → Nat → Cl} {L : Nat} (h : AOwn B w v k N T L) : ARow w v k N T L := by
  obtain ⟨us, h1, _, h3⟩ := h
  refine ⟨fun i _ => us.getD i undef, ?_, fun i hi => ?_⟩
  · have hl := h1.1
    rcases h1.2 with ⟨rfl, rfl⟩ | ⟨g, c, cur, rfl, hB, hg, hc, hm, rest⟩
    · exact RowAt.nil _ _ _
    · refine ⟨_, c, rfl, hc, by unfold maxLen at hm; omega, fun _ => ⟨g, 0, rfl, fun i hi j hj => ?_⟩⟩
      obtain ⟨u, hu, _⟩ := h3 i hi
      rw [show j = 0 by omega, Nat.zero_add, Nat.mul_one, Nat.add_zero]
      exact owns_cell h1 (by show us[i]? = some (us.getD i undef); rw [List.getD_eq_getElem?_getD, hu]; rfl)
  · obtain ⟨u, hu, ho⟩ := h3 i hi
    show CRow w (us.getD i undef) (N i) (T i) L
    rw [List.getD_eq_getElem?_getD, hu]
    exact ho.row
theorem AOwn.more {B : Nat} {w w' : World} {v v' y : Value} {k : Nat} {N : Nat → Nat} {T : Nat → Nat → Cl} {L : Nat} (h : AOwn B w v k N T L) (hy : COwn B w y (N k) (T k) L) (h1 : ∀ us, w.ownsRow B 50 1 v k us → w'.ownsRow B 50 1 v' (k + 1) (us ++ [y])) (hg : w.grownBy w' v.ownBlock) (hp : ∀ g, v'.ownBlock = some g → PureB IsLimb w' g) (hk : KeepQ IsLimb w w') : AOwn B w' v' (k + 1) N T L := by
  obtain ⟨us, o1, o2, o3⟩ := h
  have hl := o1.1
  have stay : ∀ u n t, COwn B w u n t L → COwn B w' u n t L := fun u n t ht => by
    obtain ⟨cs, c1, _⟩ := id ht
    exact ht.kept hg hk (unlike c1 o1 (by decide))
  refine ⟨us ++ [y], h1 us o1, hp, fun i hi => ?_⟩
  by_cases e : i = k
  · subst e
    exact ⟨y, by rw [List.getElem?_append_right (by omega), hl, Nat.mul_one, Nat.sub_self]; rfl, stay _ _ _ hy⟩
  · obtain ⟨u, hu, ho⟩ := o3 i (by omega)
    exact ⟨u, by rw [List.getElem?_append_left (by omega)]; exact hu, stay _ _ _ ho⟩
theorem info_cell : (Tryd.prog.info? 49).map (fun i => (i.zero, i.size, i.bytes)) = some (some (.agg #[.bool false, .bool false, .slice none 0 0, .slice none 0 0]), 4, 64) := by kernel_rfl
theorem info_cells : (Tryd.prog.info? 50).map (fun i => (i.zero, i.size, i.bytes)) = some (some (.slice none 0 0), 1, 24) := by kernel_rfl
theorem COwn.apart {B : Nat} {w : World} {v : Value} {n : Nat} {t : Nat → Cl} {L : Nat} (h : COwn B w v n t L) {a : Addr} (ha : ∀ g, v.ownBlock = some g → g ≠ a.block) (u : Value) (hk : KeepQ IsLimb w (w.setCell a u)) : COwn B (w.setCell a u) v n t L := by
  refine h.kept (grown_at w a u) hk ?_
  cases e : v.ownBlock with
  | none => exact .inl rfl
  | some g => exact .inr (fun e2 => ha g e (by injection e2))
theorem COwn.blocks {B : Nat} {w : World} {v : Value} {n : Nat} {t : Nat → Cl} {L : Nat} (h : COwn B w v n t L) : ∀ g, v.ownBlock = some g → B ≤ g ∧ g < w.heap.size := by
  obtain ⟨cs, h1, _⟩ := h
  exact World.ownsRow.lt h1
theorem COwn.parts {B : Nat} {w : World} {v : Value} {n : Nat} {t : Nat → Cl} {L : Nat} (h : COwn B w v n t L) : ∃ cs : List Value, cs.length = n * 4 ∧ w.ownsRow B 49 4 v n cs ∧ (∀ g, v.ownBlock = some g → PureB IsLimb w g) ∧ ∀ i, i < n → CellAt w (fun j => cs.getD (i * 4 + j) undef) (t i) L := by
  obtain ⟨cs, h1, h2, h3⟩ := h
  exact ⟨cs, h1.1, h1, h2, h3⟩
theorem AOwn.parts {B : Nat} {w : World} {v : Value} {k : Nat} {N : Nat → Nat} {T : Nat → Nat → Cl} {L : Nat} (h : AOwn B w v k N T L) : ∃ us : List Value, w.ownsRow B 50 1 v k us ∧ (∀ g, v.ownBlock = some g → PureB IsLimb w g) := by
  obtain ⟨us, h1, h2, _⟩ := h
  exact ⟨us, h1, h2⟩
theorem AOwn.blocks {B : Nat} {w : World} {v : Value} {k : Nat} {N : Nat → Nat} {T : Nat → Nat → Cl} {L : Nat} (h : AOwn B w v k N T L) : ∀ g, v.ownBlock = some g → B ≤ g ∧ g < w.heap.size := by
  obtain ⟨cs, h1, _⟩ := h
  exact World.ownsRow.lt h1
theorem AOwn.more1 {B : Nat} {w w' : World} {v v' y : Value} {k : Nat} {N : Nat → Nat} {T : Nat → Nat → Cl} {L : Nat} {us : List Value} (h : AOwn B w v k N T L) (hu : w.ownsRow B 50 1 v k us) (hy : COwn B w y (N k) (T k) L) (h1 : w'.ownsRow B 50 1 v' (k + 1) (us ++ [y])) (hg : w.grownBy w' v.ownBlock) (hp : ∀ g, v'.ownBlock = some g → PureB IsLimb w' g) (hk : KeepQ IsLimb w w') : AOwn B w' v' (k + 1) N T L := by
  refine h.more hy (fun us2 h2 => ?_) hg hp hk
  have : us2 = us := by
    rcases hu.2 with ⟨rfl, rfl⟩ | ⟨g, c, cur, rfl, _, hgg, _, _, _, ht⟩
    · have a9 : us2 = [] := by simpa using h2.1
      have b9 : us = [] := by simpa using hu.1
      rw [a9, b9]
    · rcases h2.2 with ⟨h3, _⟩ | ⟨g', c', cur', h3, _, hgg', _, _, _, ht'⟩
      · cases h3
      · cases h3
        rw [hgg] at hgg'
        cases hgg'
        rw [← ht, ← ht']
  rw [this]
  exact h1
theorem AOwn.le {B B' : Nat} {w : World} {v : Value} {k : Nat} {N : Nat → Nat} {T : Nat → Nat → Cl} {L : Nat} (h : AOwn B w v k N T L) (hb : B' ≤ B) : AOwn B' w v k N T L := by
  obtain ⟨us, h1, h2, h3⟩ := h
  exact ⟨us, owns_le h1 hb, h2, fun i hi => let ⟨u, a, b⟩ := h3 i hi; ⟨u, a, b.le hb⟩⟩
theorem AOwn.below {B : Nat} {w w' : World} {v : Value} {k : Nat} {N : Nat → Nat} {T : Nat → Nat → Cl} {L : Nat} (h : AOwn B w v k N T L) (hb : Below w.heap.size w w') : AOwn B w' v k N T L := h.later hb
end Go.Proofs.YtgddiimnpliolaaDoor

namespace Go.Proofs.YtgddiimnpliolaaDoor
set_option linter.unusedVariables false
set_option linter.unusedSimpArgs false
structure MayT (F : Int) (t : Nat → Nd) (n : Nat) : Prop where
  pos : 1 ≤ n
  few : n ≤ 255
  feat : ∀ i, i < n → (t i).leaf = false → 0 ≤ (t i).feat ∧ (t i).feat < F
  named : Named t n
  once : Once t n
  up : ∀ i, i < n → lawUp t n (n + 1) i = true
  cov : ∀ i, i < n → 0 < (t i).cov
  parts : ∀ i, i < n → (t i).leaf = false → (t i).cov = (t (t i).left.toNat).cov + (t (t i).right.toNat).cov
theorem rl_none1 {F : Int} {t : Nat → Nd} {n : Nat} (h : rl F t n 1 = none) : fb (bad1 t n) n = none ∧ fb (bad2 t n) n = none := by
  simp only [rl, Option.map_eq_none_iff] at h
  cases e : fb (bad1 t n) n with
  | none => rw [e] at h; exact ⟨rfl, by simpa using h⟩
  | some i => rw [e] at h; simp at h
theorem mayT_of {F : Int} {t : Nat → Nd} {n : Nat} (hf : tfit t n = true) (h : ∀ r, r < 4 → rl F t n r = none) : MayT F t n := by
  unfold tfit at hf
  simp only [Bool.and_eq_true, decide_eq_true_eq, Option.isNone_iff_eq_none] at hf
  have h0 := h 0 (by omega)
  have h1 := rl_none1 (h 1 (by omega))
  have h2 := h 2 (by omega)
  have h3 := h 3 (by omega)
  simp only [rl, Option.map_eq_none_iff] at h0 h2 h3
  refine ⟨hf.1.1, hf.1.2, fun i hi hl => ?_, rl0_named (h 0 (by omega)), bad1_once h1.1, fun i hi => ?_, fun i hi => ?_, fun i hi hl => ?_⟩
  · have a := fb_is hf.2 i hi
    have b := fb_is h0 i hi
    unfold badF at a
    unfold bad0 at b
    rw [hl] at b
    simp only [Bool.not_false, Bool.true_and, Bool.or_eq_false_iff, decide_eq_false_iff_not] at b
    simp only [Bool.not_eq_false', Bool.and_eq_true, decide_eq_true_eq] at a
    omega
  · have := fb_is h1.2 i hi
    unfold bad2 at this
    simpa using this
  · have := fb_is h2 i hi
    unfold bad3 at this
    rw [decide_eq_false_iff_not] at this
    grind
  · have := fb_is h3 i hi
    unfold bad4 at this
    rw [hl] at this
    simpa using this
theorem ChkOut.may {F : Int} {k : Nat} {N : Nat → Nat} {T : Nat → Nat → Nd} {s d : Int} (h : ChkOut F k N T (.agg #[.int .i64 0, .int .i64 0, .int .i64 s, .int .i64 d])) : 0 ≤ F ∧ F ≤ 64 ∧ k ≤ 64 ∧ ∀ i, i < k → MayT F (T i) (N i) := by
  rcases h with ⟨_, e⟩ | ⟨hf, x, hx, e⟩
  · simp at e
  · rcases hx with ⟨rfl, hx⟩ | ⟨r, i, er, nd, hr, hi, rfl, h1, _⟩
    · have a := mfit_is hf
      refine ⟨a.1, a.2.1, a.2.2.1, fun i hi => mayT_of ?_ (fun r hr => hx r hr i hi)⟩
      unfold mfit at hf
      simp only [Bool.and_eq_true, decide_eq_true_eq, Option.isNone_iff_eq_none] at hf
      have := fb_is hf.2 i hi
      simpa using this
    · have := rl_err h1
      simp [fltV] at e
      omega
def lv (t : Nat → Nd) (n : Nat) : Nat → Nat → Nat
  | 0, _ => 0
  | k + 1, x => if x = 0 then 0 else match upOf t x n with
    | none => 0
    | some p => lv t n k p + 1
theorem lv_more {t : Nat → Nd} {n : Nat} : ∀ k x, lawUp t n k x = true → lv t n (k + 1) x = lv t n k x
  | 0, x, h => by simp [lawUp] at h
  | k + 1, x, h => by
    show (if x = 0 then 0 else match upOf t x n with | none => 0 | some p => lv t n (k + 1) p + 1) = (if x = 0 then 0 else match upOf t x n with | none => 0 | some p => lv t n k p + 1)
    unfold lawUp at h
    by_cases e : x = 0
    · rw [if_pos e, if_pos e]
    · rw [if_neg e] at h
      rw [if_neg e, if_neg e]
      cases u : upOf t x n with
      | none => rfl
      | some p =>
        rw [u] at h
        show lv t n (k + 1) p + 1 = lv t n k p + 1
        rw [lv_more k p h]
theorem lv_lt {t : Nat → Nd} {n : Nat} : ∀ k x, lawUp t n k x = true → lv t n k x < k
  | 0, x, h => by simp [lawUp] at h
  | k + 1, x, h => by
    rw [lv]
    unfold lawUp at h
    by_cases e : x = 0
    · rw [if_pos e]; exact Nat.succ_pos k
    · rw [if_neg e] at h
      rw [if_neg e]
      cases u : upOf t x n with
      | none => rw [u] at h; cases h
      | some p =>
        rw [u] at h
        have := lv_lt k p h
        show lv t n k p + 1 < k + 1
        omega
def lvl (t : Nat → Nd) (n x : Nat) : Nat := lv t n (n + 1) x
theorem MayT.lvl_le {F : Int} {t : Nat → Nd} {n : Nat} (h : MayT F t n) {x : Nat} (hx : x < n) : lvl t n x ≤ n := by
  have := lv_lt (n + 1) x (h.up x hx)
  unfold lvl
  omega
theorem MayT.lvl_kid {F : Int} {t : Nat → Nd} {n : Nat} (h : MayT F t n) {y x : Nat} (hy : y < n) (hx : x < n) (h1 : 1 ≤ x) (hk : kid t y x) : lvl t n x = lvl t n y + 1 := by
  have hu := h.up x hx
  unfold lvl
  unfold lawUp at hu
  rw [if_neg (by omega)] at hu
  cases u : upOf t x n with
  | none => rw [u] at hu; cases hu
  | some p =>
    rw [u] at hu
    obtain ⟨p1, p2⟩ := upOf_some u
    have : p = y := h.once.one h1 hx p1 hy p2 hk
    subst this
    rw [lv, if_neg (by omega), u]
    show lv t n n p + 1 = lv t n (n + 1) p + 1
    rw [lv_more n p hu]
def goL (a : Nd) (c : Cl) : Bool := if a.leaf = true then false else if c.miss = true then a.miss else decide (c.val < a.cut)
def nxt (a : Nd) (r : Nat → Cl) : Nat := if goL a (r a.feat.toNat) = true then a.left.toNat else a.right.toNat
def wayN (t : Nat → Nd) (r : Nat → Cl) : Nat → Nat → List Nat
  | 0, x => [x]
  | k + 1, x => if (t x).leaf = true then [x] else x :: wayN t r k (nxt (t x) r)
theorem nxt_kid {t : Nat → Nd} {n x : Nat} (hN : Named t n) (hx : x < n) (hl : (t x).leaf = false) (r : Nat → Cl) : 1 ≤ nxt (t x) r ∧ nxt (t x) r < n ∧ kid t x (nxt (t x) r) := by
  have := hN x hx hl
  unfold nxt
  by_cases g : goL (t x) (r (t x).feat.toNat) = true
  · rw [if_pos g]
    exact ⟨by omega, by omega, hl, .inl (by omega)⟩
  · rw [if_neg g]
    exact ⟨by omega, by omega, hl, .inr (by omega)⟩
theorem MayT.nxt {F : Int} {t : Nat → Nd} {n : Nat} (h : MayT F t n) {x : Nat} (hx : x < n) (hl : (t x).leaf = false) (r : Nat → Cl) : Go.Proofs.YtgddiimnpliolaaDoor.nxt (t x) r < n ∧ lvl t n (Go.Proofs.YtgddiimnpliolaaDoor.nxt (t x) r) = lvl t n x + 1 := by
  obtain ⟨h1, h2, h3⟩ := nxt_kid h.named hx hl r
  exact ⟨h2, h.lvl_kid hx h2 h1 h3⟩
theorem MayT.way_more {F : Int} {t : Nat → Nd} {n : Nat} (h : MayT F t n) (r : Nat → Cl) : ∀ k x, x < n → n + 1 ≤ lvl t n x + k → wayN t r (k + 1) x = wayN t r k x
  | 0, x, hx, hk => by have := h.lvl_le hx; omega
  | k + 1, x, hx, hk => by
    show (if (t x).leaf = true then [x] else x :: wayN t r (k + 1) (Go.Proofs.YtgddiimnpliolaaDoor.nxt (t x) r)) = (if (t x).leaf = true then [x] else x :: wayN t r k (Go.Proofs.YtgddiimnpliolaaDoor.nxt (t x) r))
    cases hl : (t x).leaf with
    | true => rfl
    | false =>
      obtain ⟨a, b⟩ := h.nxt hx hl r
      rw [if_neg (by simp), if_neg (by simp), h.way_more r k _ a (by omega)]
theorem MayT.way_plus {F : Int} {t : Nat → Nd} {n : Nat} (h : MayT F t n) (r : Nat → Cl) {k x : Nat} (hx : x < n) (hk : n + 1 ≤ lvl t n x + k) : ∀ d, wayN t r (k + d) x = wayN t r k x
  | 0 => rfl
  | d + 1 => by rw [← Nat.add_assoc, h.way_more r (k + d) x hx (by omega), h.way_plus r hx hk d]
def way (t : Nat → Nd) (n : Nat) (r : Nat → Cl) (x : Nat) : List Nat := wayN t r (n + 1) x
theorem way_leaf {t : Nat → Nd} {n x : Nat} {r : Nat → Cl} (hl : (t x).leaf = true) : way t n r x = [x] := by unfold way; rw [wayN, if_pos hl]
theorem MayT.way_split {F : Int} {t : Nat → Nd} {n : Nat} (h : MayT F t n) (r : Nat → Cl) {x : Nat} (hx : x < n) (hl : (t x).leaf = false) : way t n r x = x :: way t n r (Go.Proofs.YtgddiimnpliolaaDoor.nxt (t x) r) := by
  obtain ⟨a, b⟩ := h.nxt hx hl r
  unfold way
  rw [wayN, if_neg (by simp [hl]), h.way_more r n _ a (by omega)]
theorem MayT.way_ind {F : Int} {t : Nat → Nd} {n : Nat} (h : MayT F t n) (r : Nat → Cl) {P : Nat → Prop} (h0 : ∀ x, x < n → (t x).leaf = true → P x) (h1 : ∀ x, x < n → (t x).leaf = false → P (Go.Proofs.YtgddiimnpliolaaDoor.nxt (t x) r) → P x) : ∀ k x, x < n → n + 1 ≤ lvl t n x + k → P x
  | 0, x, hx, hk => by have := h.lvl_le hx; omega
  | k + 1, x, hx, hk => by
    cases hl : (t x).leaf with
    | true => exact h0 x hx hl
    | false =>
      obtain ⟨a, b⟩ := h.nxt hx hl r
      exact h1 x hx hl (h.way_ind r h0 h1 k _ a (by omega))
theorem MayT.by_way {F : Int} {t : Nat → Nd} {n : Nat} (h : MayT F t n) (r : Nat → Cl) {P : Nat → Prop} (h0 : ∀ x, x < n → (t x).leaf = true → P x) (h1 : ∀ x, x < n → (t x).leaf = false → P (Go.Proofs.YtgddiimnpliolaaDoor.nxt (t x) r) → P x) {x : Nat} (hx : x < n) : P x := h.way_ind r h0 h1 (n + 1) x hx (by omega)
def wlast (t : Nat → Nd) (n : Nat) (r : Nat → Cl) (x : Nat) : Nat := (way t n r x).getLastD 0
theorem wlast_leaf {t : Nat → Nd} {n x : Nat} {r : Nat → Cl} (hl : (t x).leaf = true) : wlast t n r x = x := by unfold wlast; rw [way_leaf hl]; rfl
theorem way_ne (t : Nat → Nd) (n : Nat) (r : Nat → Cl) (x : Nat) : way t n r x ≠ [] := by
  unfold way
  rw [wayN]
  by_cases e : (t x).leaf = true
  · rw [if_pos e]; simp
  · rw [if_neg e]; simp
theorem MayT.wlast_split {F : Int} {t : Nat → Nd} {n : Nat} (h : MayT F t n) (r : Nat → Cl) {x : Nat} (hx : x < n) (hl : (t x).leaf = false) : wlast t n r x = wlast t n r (Go.Proofs.YtgddiimnpliolaaDoor.nxt (t x) r) := by
  unfold wlast
  rw [h.way_split r hx hl]
  have := way_ne t n r (Go.Proofs.YtgddiimnpliolaaDoor.nxt (t x) r)
  cases e : way t n r (Go.Proofs.YtgddiimnpliolaaDoor.nxt (t x) r) with
  | nil => exact absurd e this
  | cons a l => simp [List.getLastD]
theorem MayT.wlast_is {F : Int} {t : Nat → Nd} {n : Nat} (h : MayT F t n) (r : Nat → Cl) {x : Nat} (hx : x < n) : wlast t n r x < n ∧ (t (wlast t n r x)).leaf = true :=
  h.by_way r (P := fun x => wlast t n r x < n ∧ (t (wlast t n r x)).leaf = true) (fun x hx hl => by rw [wlast_leaf hl]; exact ⟨hx, hl⟩) (fun x hx hl ih => by rw [h.wlast_split r hx hl]; exact ih) hx
theorem MayT.way_len {F : Int} {t : Nat → Nd} {n : Nat} (h : MayT F t n) (r : Nat → Cl) {x : Nat} (hx : x < n) : (way t n r x).length + lvl t n x ≤ n + 1 :=
  h.by_way r (P := fun x => (way t n r x).length + lvl t n x ≤ n + 1) (fun x hx hl => by have := h.lvl_le hx; rw [way_leaf hl]; simp; omega) (fun x hx hl ih => by
    have := (h.nxt hx hl r).2
    rw [h.way_split r hx hl]
    simp only [List.length_cons]
    omega) hx
theorem MayT.way_small {F : Int} {t : Nat → Nd} {n : Nat} (h : MayT F t n) (r : Nat → Cl) {x : Nat} (hx : x < n) : ∀ y ∈ way t n r x, y < n :=
  h.by_way r (P := fun x => ∀ y ∈ way t n r x, y < n) (fun x hx hl => by rw [way_leaf hl]; simp; exact hx) (fun x hx hl ih => by
    rw [h.way_split r hx hl]
    intro y hy
    rw [List.mem_cons] at hy
    rcases hy with rfl | hy
    · exact hx
    · exact ih y hy) hx
def leafV (T : Nat → Nat → Nd) (N : Nat → Nat) (r : Nat → Cl) (i : Nat) : Rat := (T i (wlast (T i) (N i) r 0)).val
def predN (T : Nat → Nat → Nd) (N : Nat → Nat) (r : Nat → Cl) : Nat → Rat
  | 0 => 0
  | k + 1 => predN T N r k + leafV T N r k

def kl (t : Nat → Nd) (x : Nat) : Nat := (t x).left.toNat
def kr (t : Nat → Nd) (x : Nat) : Nat := (t x).right.toNat
theorem MayT.kids {F : Int} {t : Nat → Nd} {n : Nat} (h : MayT F t n) {x : Nat} (hx : x < n) (hl : (t x).leaf = false) : (t x).left = (kl t x : Int) ∧ (t x).right = (kr t x : Int) ∧ 1 ≤ kl t x ∧ kl t x < n ∧ 1 ≤ kr t x ∧ kr t x < n ∧ lvl t n (kl t x) = lvl t n x + 1 ∧ lvl t n (kr t x) = lvl t n x + 1 := by
  have hN := h.named x hx hl
  have e1 : (t x).left = (kl t x : Int) := by unfold kl; omega
  have e2 : (t x).right = (kr t x : Int) := by unfold kr; omega
  have a1 : 1 ≤ kl t x := by omega
  have a2 : kl t x < n := by omega
  have a3 : 1 ≤ kr t x := by omega
  have a4 : kr t x < n := by omega
  exact ⟨e1, e2, a1, a2, a3, a4, h.lvl_kid hx a2 a1 ⟨hl, .inl e1⟩, h.lvl_kid hx a4 a3 ⟨hl, .inr e2⟩⟩
theorem MayT.tree_ind {F : Int} {t : Nat → Nd} {n : Nat} (h : MayT F t n) {P : Nat → Prop} (h0 : ∀ x, x < n → (t x).leaf = true → P x) (h1 : ∀ x, x < n → (t x).leaf = false → P (kl t x) → P (kr t x) → P x) : ∀ k x, x < n → n + 1 ≤ lvl t n x + k → P x
  | 0, x, hx, hk => by have := h.lvl_le hx; omega
  | k + 1, x, hx, hk => by
    cases hl : (t x).leaf with
    | true => exact h0 x hx hl
    | false =>
      obtain ⟨_, _, _, a2, _, a4, b1, b2⟩ := h.kids hx hl
      exact h1 x hx hl (h.tree_ind h0 h1 k _ a2 (by omega)) (h.tree_ind h0 h1 k _ a4 (by omega))
theorem MayT.by_tree {F : Int} {t : Nat → Nd} {n : Nat} (h : MayT F t n) {P : Nat → Prop} (h0 : ∀ x, x < n → (t x).leaf = true → P x) (h1 : ∀ x, x < n → (t x).leaf = false → P (kl t x) → P (kr t x) → P x) {x : Nat} (hx : x < n) : P x := h.tree_ind h0 h1 (n + 1) x hx (by omega)
def preN (t : Nat → Nd) : Nat → Nat → List Nat
  | 0, x => [x]
  | k + 1, x => if (t x).leaf = true then [x] else x :: (preN t k (kl t x) ++ preN t k (kr t x))
theorem MayT.pre_more {F : Int} {t : Nat → Nd} {n : Nat} (h : MayT F t n) : ∀ k x, x < n → n + 1 ≤ lvl t n x + k → preN t (k + 1) x = preN t k x
  | 0, x, hx, hk => by have := h.lvl_le hx; omega
  | k + 1, x, hx, hk => by
    show (if (t x).leaf = true then [x] else x :: (preN t (k + 1) (kl t x) ++ preN t (k + 1) (kr t x))) = (if (t x).leaf = true then [x] else x :: (preN t k (kl t x) ++ preN t k (kr t x)))
    cases hl : (t x).leaf with
    | true => rfl
    | false =>
      obtain ⟨_, _, _, a2, _, a4, b1, b2⟩ := h.kids hx hl
      rw [if_neg (by simp), if_neg (by simp), h.pre_more k _ a2 (by omega), h.pre_more k _ a4 (by omega)]
def pre (t : Nat → Nd) (n x : Nat) : List Nat := preN t (n + 1) x
theorem pre_leaf {t : Nat → Nd} {n x : Nat} (hl : (t x).leaf = true) : pre t n x = [x] := by unfold pre; rw [preN, if_pos hl]
theorem MayT.pre_split {F : Int} {t : Nat → Nd} {n : Nat} (h : MayT F t n) {x : Nat} (hx : x < n) (hl : (t x).leaf = false) : pre t n x = x :: (pre t n (kl t x) ++ pre t n (kr t x)) := by
  obtain ⟨_, _, _, a2, _, a4, b1, b2⟩ := h.kids hx hl
  unfold pre
  rw [preN, if_neg (by simp [hl]), h.pre_more n _ a2 (by omega), h.pre_more n _ a4 (by omega)]
def lvs (t : Nat → Nd) (n x : Nat) : List Nat := (pre t n x).filter (fun y => (t y).leaf)
theorem lvs_leaf {t : Nat → Nd} {n x : Nat} (hl : (t x).leaf = true) : lvs t n x = [x] := by unfold lvs; rw [pre_leaf hl]; simp [hl]
theorem MayT.lvs_split {F : Int} {t : Nat → Nd} {n : Nat} (h : MayT F t n) {x : Nat} (hx : x < n) (hl : (t x).leaf = false) : lvs t n x = lvs t n (kl t x) ++ lvs t n (kr t x) := by
  unfold lvs
  rw [h.pre_split hx hl]
  simp [hl]
theorem MayT.count {F : Int} {t : Nat → Nd} {n : Nat} (h : MayT F t n) {x : Nat} (hx : x < n) : 2 * (lvs t n x).length = (pre t n x).length + 1 :=
  h.by_tree (P := fun x => 2 * (lvs t n x).length = (pre t n x).length + 1) (fun x hx hl => by rw [lvs_leaf hl, pre_leaf hl]; rfl) (fun x hx hl a b => by
    rw [h.lvs_split hx hl, h.pre_split hx hl]
    simp only [List.length_append, List.length_cons]
    omega) hx
def covS (t : Nat → Nd) : List Nat → Rat
  | [] => 0
  | x :: l => covS t l + (t x).cov
theorem covS_app (t : Nat → Nd) : ∀ l l', covS t (l ++ l') = covS t l + covS t l'
  | [], l' => by show covS t l' = 0 + covS t l'; rw [Rat.zero_add]
  | x :: l, l' => by
    show covS t (l ++ l') + (t x).cov = covS t l + (t x).cov + covS t l'
    rw [covS_app t l l']
    grind
theorem MayT.covers {F : Int} {t : Nat → Nd} {n : Nat} (h : MayT F t n) {x : Nat} (hx : x < n) : covS t (lvs t n x) = (t x).cov :=
  h.by_tree (P := fun x => covS t (lvs t n x) = (t x).cov) (fun x hx hl => by rw [lvs_leaf hl]; show 0 + (t x).cov = _; rw [Rat.zero_add]) (fun x hx hl a b => by
    rw [h.lvs_split hx hl, covS_app, a, b]
    exact (h.parts x hx hl).symm) hx
def dpN (t : Nat → Nd) : Nat → Nat → Nat
  | 0, _ => 0
  | k + 1, x => if (t x).leaf = true then 0 else max (dpN t k (kl t x)) (dpN t k (kr t x)) + 1
theorem MayT.dp_more {F : Int} {t : Nat → Nd} {n : Nat} (h : MayT F t n) : ∀ k x, x < n → n + 1 ≤ lvl t n x + k → dpN t (k + 1) x = dpN t k x
  | 0, x, hx, hk => by have := h.lvl_le hx; omega
  | k + 1, x, hx, hk => by
    show (if (t x).leaf = true then 0 else max (dpN t (k + 1) (kl t x)) (dpN t (k + 1) (kr t x)) + 1) = (if (t x).leaf = true then 0 else max (dpN t k (kl t x)) (dpN t k (kr t x)) + 1)
    cases hl : (t x).leaf with
    | true => rfl
    | false =>
      obtain ⟨_, _, _, a2, _, a4, b1, b2⟩ := h.kids hx hl
      rw [if_neg (by simp), if_neg (by simp), h.dp_more k _ a2 (by omega), h.dp_more k _ a4 (by omega)]
def dp (t : Nat → Nd) (n x : Nat) : Nat := dpN t (n + 1) x
theorem dp_leaf {t : Nat → Nd} {n x : Nat} (hl : (t x).leaf = true) : dp t n x = 0 := by unfold dp; rw [dpN, if_pos hl]
theorem MayT.dp_split {F : Int} {t : Nat → Nd} {n : Nat} (h : MayT F t n) {x : Nat} (hx : x < n) (hl : (t x).leaf = false) : dp t n x = max (dp t n (kl t x)) (dp t n (kr t x)) + 1 := by
  obtain ⟨_, _, _, a2, _, a4, b1, b2⟩ := h.kids hx hl
  unfold dp
  rw [dpN, if_neg (by simp [hl]), h.dp_more n _ a2 (by omega), h.dp_more n _ a4 (by omega)]
theorem MayT.dp_le {F : Int} {t : Nat → Nd} {n : Nat} (h : MayT F t n) {x : Nat} (hx : x < n) : dp t n x + lvl t n x ≤ n :=
  h.by_tree (P := fun x => dp t n x + lvl t n x ≤ n) (fun x hx hl => by rw [dp_leaf hl]; have := h.lvl_le hx; omega) (fun x hx hl a b => by
    obtain ⟨_, _, _, _, _, _, b1, b2⟩ := h.kids hx hl
    rw [h.dp_split hx hl]
    omega) hx
theorem MayT.dp_max {F : Int} {t : Nat → Nd} {n : Nat} (h : MayT F t n) {x : Nat} (hx : x < n) : (∀ y ∈ pre t n x, lvl t n y ≤ lvl t n x + dp t n x) ∧ ∃ y ∈ pre t n x, lvl t n y = lvl t n x + dp t n x :=
  h.by_tree (P := fun x => (∀ y ∈ pre t n x, lvl t n y ≤ lvl t n x + dp t n x) ∧ ∃ y ∈ pre t n x, lvl t n y = lvl t n x + dp t n x) (fun x hx hl => by
    rw [pre_leaf hl, dp_leaf hl]
    exact ⟨fun y hy => by simp at hy; rw [hy]; exact Nat.le_refl _, x, by simp, rfl⟩) (fun x hx hl a b => by
    obtain ⟨_, _, _, _, _, _, b1, b2⟩ := h.kids hx hl
    rw [h.pre_split hx hl, h.dp_split hx hl]
    refine ⟨fun y hy => ?_, ?_⟩
    · simp only [List.mem_cons, List.mem_append] at hy
      rcases hy with rfl | hy | hy
      · omega
      · have := a.1 y hy; omega
      · have := b.1 y hy; omega
    · obtain ⟨y, hy, ey⟩ := a.2
      obtain ⟨z, hz, ez⟩ := b.2
      by_cases c : dp t n (kr t x) ≤ dp t n (kl t x)
      · exact ⟨y, by simp [hy], by omega⟩
      · exact ⟨z, by simp [hz], by omega⟩) hx
end Go.Proofs.YtgddiimnpliolaaDoor

namespace Go.Proofs.YtgddiimnpliolaaDoor
open Go.RowKit
set_option linter.unusedVariables false
set_option linter.unusedSimpArgs false
structure RInv (t : Nat → Nd) (n : Nat) (out wait : List Nat) : Prop where
  d : DInv t n out wait
  e : out ++ wait.reverse.flatMap (pre t n) = pre t n 0
  m : ∃ F, MayT F t n
theorem RInv.start {t : Nat → Nd} {n : Nat} (hn : 0 < n) (hm : ∃ F, MayT F t n) : RInv t n [] [0] := ⟨DInv.start hn, by simp, hm⟩
theorem RInv.len {t : Nat → Nd} {n : Nat} {out wait : List Nat} (h : RInv t n out wait) : out.length + wait.length ≤ n := h.d.len
theorem RInv.small {t : Nat → Nd} {n : Nat} {out wait : List Nat} (h : RInv t n out wait) : ∀ x, x ∈ out ++ wait → x < n := h.d.small
theorem RInv.leaf {t : Nat → Nd} {n : Nat} {out ws : List Nat} {i : Nat} (h : RInv t n out (ws ++ [i])) (hl : (t i).leaf = true) : RInv t n (out ++ [i]) ws := by
  refine ⟨h.d.leaf hl, ?_, h.m⟩
  rw [← h.e]
  simp [pre_leaf hl]
theorem RInv.split {t : Nat → Nd} {n : Nat} {out ws : List Nat} {i l r : Nat} (h : RInv t n out (ws ++ [i])) (ho : Once t n) (hl : (t i).leaf = false) (el : (t i).left = (l : Int)) (er : (t i).right = (r : Int)) (l1 : 1 ≤ l) (l2 : l < n) (r1 : 1 ≤ r) (r2 : r < n) : RInv t n (out ++ [i]) (ws ++ [r, l]) := by
  refine ⟨h.d.split ho hl el er l1 l2 r1 r2, ?_, h.m⟩
  obtain ⟨F, hm⟩ := h.m
  have hi : i < n := h.d.small i (by simp)
  rw [← h.e]
  have e1 : kl t i = l := by unfold kl; omega
  have e2 : kr t i = r := by unfold kr; omega
  simp [hm.pre_split hi hl, e1, e2]
theorem RInv.all {t : Nat → Nd} {n : Nat} {out : List Nat} (h : RInv t n out []) : out = pre t n 0 := by
  have := h.e
  simpa using this
theorem RInv.count {t : Nat → Nd} {n : Nat} {out : List Nat} (h : RInv t n out []) : out.length = n := by
  obtain ⟨F, hm⟩ := h.m
  have h1 := h.d.len
  have hp : out.Perm (List.range n) := by
    rw [List.perm_iff_count]
    intro a
    by_cases ha : a < n
    · have : a ∈ out := (h.d.all hm.once a ha).1 (hm.up a ha)
      have hn := h.d.nodup
      simp only [List.append_nil] at hn
      rw [hn.count, if_pos this, List.nodup_range.count, if_pos (List.mem_range.2 ha)]
    · have : a ∉ out := fun hh => ha (h.d.small a (by simpa using hh))
      rw [List.count_eq_zero_of_not_mem this, List.count_eq_zero_of_not_mem (by simpa using ha)]
  have := hp.length_eq
  simpa using this
set_option maxRecDepth 100000 in
set_option maxHeartbeats 8000000 in
theorem reached2_at (v : Value) (n : Nat) (t : Nat → Nd) (L : Nat) (w : World) (hv : TRow w v n t L) (hN : Named t n) (hO : Once t n) (hn0 : 0 < n) (hn : n ≤ 255) (hm : ∃ F, MayT F t n) :
    Calls Tryd.prog 21 #[v] w fun e w' => ∃ r outs, e = .returned r ∧ IntOwn w.heap.size w' r outs ∧ RInv t n outs [] ∧ Below w.heap.size w w' := by
  obtain ⟨ao, c, rfl, hnc, hc63⟩ := hv.open
  have BB : Below w.heap.size w w := Below.refl _ _
  go_enter Tryd.func21, Tryd.ntmps21
  have HI0 : Hid (RInv t n [] [0]) := RInv.start hn0 hm
  have hA0 := int_first w 0 w.heap.size (Nat.le_refl _)
  have hB0 : Below w.heap.size w (w.alloc (.cells #[.int .i64 0] 3)) := BB.alloc (Nat.le_refl _) _
  have HN : Hid (Named t n) := hN
  have HO : Hid (Once t n) := hO
  clear hN hO BB hm
  go_wp2
  go_loopw [3, 4] (fun vo vw wr => ∃ outs waits : List Nat, IntOwn w.heap.size wr vo outs ∧ IntOwn w.heap.size wr vw waits ∧ AsideI vo vw ∧ Hid (RInv t n outs waits) ∧ Below w.heap.size w wr) (fun vo _ _ => n - lenV vo)
  case atStart => exact ⟨[], [0], World.ownsRow_nil _ _ _ _, hA0, (by intro g h; simp [Value.ownBlock] at h), HI0, hB0⟩
  case round =>
    clear hA0 hB0 HI0
    obtain ⟨outs, waits, hO1, hW1, hAs, HI, BB⟩ := hrel
    have hlen := HI.out.len
    obtain ⟨oo, co_, rfl, hoc⟩ := hO1.form
    rcases List.eq_nil_or_concat waits with rfl | ⟨ws, i, rfl⟩
    · obtain ⟨ow, cw, rfl, hwc⟩ := hW1.form
      go_wp2
      go_ret
      exact ⟨_, outs, rfl, hO1, HI.out, BB⟩
    · rw [List.concat_eq_append] at hW1 HI hlen
      have hil : i < n := HI.out.small i (by simp)
      obtain ⟨gw, cw, rfl, hwc⟩ := hW1.open (by simp)
      obtain ⟨k, hk⟩ : ∃ k, ws.length = k := ⟨_, rfl⟩
      have hk1 : (ws ++ [i]).length = k + 1 := by simp [hk]
      have XW := hW1.cell rfl (j := k) (x := i) (by rw [← hk]; simp)
      have hWp := hW1.pop
      rw [hk] at hWp
      obtain ⟨k1, hk2⟩ : ∃ k1, k1 = k + 1 := ⟨_, rfl⟩
      rw [hk1, ← hk2] at hwc ⊢
      have hk255 : k ≤ 255 := by rw [List.length_append, hk] at hlen; omega
      have f0 : IntKind.i64.wrap (k : Int) = (k : Int) := by rw [IntKind.wrap_i64]; omega
      have f1 : (k1 : Int) > 0 := by omega
      have f2 : (k1 : Int) - 1 = (k : Int) := by omega
      have f3 : (0 : Int) ≤ (k : Int) := by omega
      have f4 : (k : Int) < (k1 : Int) := by omega
      have f5 : (k : Int) ≤ (cw : Int) := by omega
      have f6 : (0 : Int) ≤ (i : Int) := by omega
      have f7 : (i : Int) < (n : Int) := by omega
      have hol : outs.length ≤ 255 := by omega
      have hAs2 : AsideI (.slice oo outs.length co_) (.slice (some ⟨gw, 0, none⟩) k cw) := fun g h1 h2 => hAs g h1 h2
      have HKK : Hid (k1 = k + 1) := hk2
      have HWK : Hid (ws.length = k) := hk
      clear hAs hW1 hk1 hk2 hk
      obtain ⟨b, off, cc, p1, a1, n1, c1, b1, m1, d1, p2, a2, n2, c2, b2, m2, d2, p3, a3, n3, c3, b3, m3, d3, hvv, hcc, hc6, NN, r1, r2, r3, i1, i2, i3⟩ := hv.at hil
      cases hvv
      clear r1 r2 r3 i1 i2 i3
      have g1 : (i : Int) < (n : Int) := by omega
      have g0 : (0 : Int) ≤ (i : Int) := by omega
      have HNI := HN.out i hil
      obtain ⟨lf, hlf⟩ : ∃ z, (t i).leaf = z := ⟨_, rfl⟩
      obtain ⟨ll, hll⟩ : ∃ z, (t i).left = z := ⟨_, rfl⟩
      obtain ⟨rr, hrr⟩ : ∃ z, (t i).right = z := ⟨_, rfl⟩
      have HLF : Hid ((t i).leaf = lf) := hlf
      have HLL : Hid ((t i).left = ll) := hll
      have HRR : Hid ((t i).right = rr) := hrr
      rw [hlf, hll, hrr] at HNI
      rw [hlf, hll, hrr] at NN
      clear hlf hll hrr
      generalize (t i).miss = ms at NN
      generalize (t i).feat = ft at NN
      have hO2 : IntOwn w.heap.size (wr.alloc (.cells #[.int .i64 (i : Int)] 3)) (.slice oo outs.length co_) outs := hO1.later ((Below.refl _ _).alloc (Nat.le_refl _) _)
      have hW2 : IntOwn w.heap.size (wr.alloc (.cells #[.int .i64 (i : Int)] 3)) (.slice (some ⟨gw, 0, none⟩) k cw) ws := hWp.later ((Below.refl _ _).alloc (Nat.le_refl _) _)
      have BB2 : Below w.heap.size w (wr.alloc (.cells #[.int .i64 (i : Int)] 3)) := BB.alloc BB.size _
      have hsz2 : w.heap.size ≤ (wr.alloc (.cells #[.int .i64 (i : Int)] 3)).heap.size := BB2.size
      cases lf
      · obtain ⟨n1_, n2_, n3_, n4_⟩ := HNI rfl
        obtain ⟨l, rfl⟩ : ∃ l : Nat, ll = (l : Int) := ⟨ll.toNat, by omega⟩
        obtain ⟨m, rfl⟩ : ∃ m : Nat, rr = (m : Int) := ⟨rr.toNat, by omega⟩
        have HI2 : Hid (RInv t n (outs ++ [i]) (ws ++ [m, l])) := HI.out.split HO.out HLF.out HLL.out HRR.out (by omega) (by omega) (by omega) (by omega)
        have hl2 := HI2.out.len
        rw [List.length_append, List.length_append] at hl2
        clear HI HNI HLF HLL HRR
        go_wp2_with (first
          | (at_builtin
             refine wpList_append_pureM (Q' := fun _ => False) rfl _ _ _ rfl w.heap.size 3 (.int .i64 0) 1 8 Tryd.underlying27 info_int rfl (by omega) (.slice oo outs.length co_) rfl outs.length (outs.map (fun x : Nat => Value.int .i64 (x : Int))) hO2 (fun _ _ _ _ _ h => h) ⟨wr.heap.size, 0, none⟩ 1 1 (by omega) (by omega) rfl [.int .i64 (i : Int)] rfl (news_block (heap_alloc_new _ _)) (by simp [Value.oneCell']) (by simp) (by simp) (by omega) (by omega) hsz2 ?_
             intro go co2 w2 hO3 hg3 hat3 _ _
             have hW3 := hW2.stay hg3 hAs2.symm
             have hAs3 := (asideI_new hW2 hAs2.symm hat3 (m := outs.length + 1) (c := co2)).symm
             have hO4 := int_more hO3
             have hB3 : Below w.heap.size w w2 := below_grownB BB2 hg3 BB2.size (fun g h => (hO2.both g h).1)
             clear hO3 hg3 hat3 BB2 hO2 hW2 hWp hO1 hAs2 BB XW
             obtain ⟨N_0, N_1, N_2, N_3, N_4, N_5, N_6, N_7, N_8, N_9, N_10, N_11, N_12, N_13⟩ := NN.low hB3
             obtain ⟨W1, hW1, hS1, hL1, VN, FN⟩ := V14.lay w2 44 (.bool false) (.int .i64 ft) (.bool p1) (.slice a1 n1 c1) (.slice b1 m1 d1) (.int .i64 (l : Int)) (.int .i64 (m : Int)) (.bool ms) (.bool p2) (.slice a2 n2 c2) (.slice b2 m2 d2) (.bool p3) (.slice a3 n3 c3) (.slice b3 m3 d3)
             replace hB3 := hB3.trans (hL1.mono hB3.size)
             have hO5 := hO4.later hL1
             have hW5 := hW3.later hL1
             obtain ⟨V_0, V_1, V_2, V_3, V_4, V_5, V_6, V_7, V_8, V_9, V_10, V_11, V_12, V_13⟩ := id VN
             have hA6 : Below W1.heap.size W1 (W1.alloc (.cells #[.int .i64 (m : Int), .int .i64 (l : Int)] 3)) := (Below.refl _ _).alloc (Nat.le_refl _) _
             have hO6 := hO5.later hA6
             have hW6 := hW5.later hA6
             have BB6 : Below w.heap.size w (W1.alloc (.cells #[.int .i64 (m : Int), .int .i64 (l : Int)] 3)) := hB3.alloc hB3.size _
             have hsz6 := BB6.size
             have hnb6 := news_block (heap_alloc_new W1 (.cells #[.int .i64 (m : Int), .int .i64 (l : Int)] 3))
             rw [hS1] at hnb6
             have hW7 := int_len HWK.out hW6
             subst hW1)
          | (at_builtin
             refine wpList_append_pureM (Q' := fun _ => False) rfl _ _ _ rfl w.heap.size 3 (.int .i64 0) 1 8 Tryd.underlying27 info_int rfl (by omega) (.slice (some ⟨gw, 0, none⟩) k cw) rfl k (ws.map (fun x : Nat => Value.int .i64 (x : Int))) hW7 (fun _ _ _ _ _ h => h) ⟨w2.heap.size + 1, 0, none⟩ 2 2 (by omega) (by omega) ?g12 [.int .i64 (m : Int), .int .i64 (l : Int)] rfl hnb6 ?g15 ?g16 ?g17 (by omega) (by omega) hsz6 ?_
             case g12 => (first | (simp; done) | rfl)
             case g15 => simp [Value.oneCell']
             case g16 => simp
             case g17 => simp
             intro gn cn w3 hW8 hg8 hat8 _ _
             have hO9 := hO6.stay hg8 hAs3
             have hAs9 := asideI_new hO6 hAs3 hat8 (m := k + 2) (c := cn)
             have hB9 : Below w.heap.size w w3 := below_grownB BB6 hg8 BB6.size (fun g h => (hW6.both g h).1)
             have hW9 := int_more2 HWK.out hW8
             clear hW8 hg8 hat8 hW7 hO6 hW6 BB6 hA6 hnb6 hsz6 V_0 V_1 V_2 V_3 V_4 V_5 V_6 V_7 V_8 V_9 V_10 V_11 V_12 V_13))
        go_roundw
        case rel => exact ⟨outs ++ [i], ws ++ [m, l], hO9, hW9, hAs9, HI2, hB9⟩
        case measure => simp [lenV]; simp at hl2; omega
      · have HI2 : Hid (RInv t n (outs ++ [i]) ws) := HI.out.leaf HLF.out
        have hl2 := HI2.out.len
        rw [List.length_append] at hl2
        clear HI HNI HLF HLL HRR
        go_wp2_with (first
          | (at_builtin
             refine wpList_append_pureM (Q' := fun _ => False) rfl _ _ _ rfl w.heap.size 3 (.int .i64 0) 1 8 Tryd.underlying27 info_int rfl (by omega) (.slice oo outs.length co_) rfl outs.length (outs.map (fun x : Nat => Value.int .i64 (x : Int))) hO2 (fun _ _ _ _ _ h => h) ⟨wr.heap.size, 0, none⟩ 1 1 (by omega) (by omega) rfl [.int .i64 (i : Int)] rfl (news_block (heap_alloc_new _ _)) (by simp [Value.oneCell']) (by simp) (by simp) (by omega) (by omega) hsz2 ?_
             intro go co2 w2 hO3 hg3 hat3 _ _
             have hW3 := hW2.stay hg3 hAs2.symm
             have hAs3 := (asideI_new hW2 hAs2.symm hat3 (m := outs.length + 1) (c := co2)).symm
             have hO4 := int_more hO3
             have hB3 : Below w.heap.size w w2 := below_grownB BB2 hg3 BB2.size (fun g h => (hO2.both g h).1)
             clear hO3 hg3 hat3 BB2 hO2 hW2 hWp hO1 hAs2 BB XW
             obtain ⟨N_0, N_1, N_2, N_3, N_4, N_5, N_6, N_7, N_8, N_9, N_10, N_11, N_12, N_13⟩ := NN.low hB3
             obtain ⟨W1, hW1, hS1, hL1, VN, FN⟩ := V14.lay w2 44 (.bool true) (.int .i64 ft) (.bool p1) (.slice a1 n1 c1) (.slice b1 m1 d1) (.int .i64 ll) (.int .i64 rr) (.bool ms) (.bool p2) (.slice a2 n2 c2) (.slice b2 m2 d2) (.bool p3) (.slice a3 n3 c3) (.slice b3 m3 d3)
             replace hB3 := hB3.trans (hL1.mono hB3.size)
             have hO5 := hO4.later hL1
             have hW5 := hW3.later hL1
             obtain ⟨V_0, V_1, V_2, V_3, V_4, V_5, V_6, V_7, V_8, V_9, V_10, V_11, V_12, V_13⟩ := id VN
             subst hW1))
        go_roundw
        case rel => exact ⟨outs ++ [i], ws, hO5, by have := HWK.out; unfold IntOwn at hW5 ⊢; rw [this] at hW5 ⊢; exact hW5, hAs3, HI2, hB3⟩
        case measure => simp [lenV]; simp at hl2; omega

theorem cmpQ_lt10 (q r : Rat) : decide (cmpQ q r < 0) = decide (q < r) := by
  unfold cmpQ
  by_cases h : q < r
  · simp [h]
  · by_cases h2 : r < q
    · simp [h, h2]
    · simp [h, h2]
def Quad10 (w : World) (b o : Nat) (x y z u : Value) : Prop := w.cell? ⟨b, o, none⟩ = some x ∧ w.cell? ⟨b, o + 1, none⟩ = some y ∧ w.cell? ⟨b, o + 2, none⟩ = some z ∧ w.cell? ⟨b, o + 3, none⟩ = some u
theorem Quad10.out {w : World} {b o : Nat} {x y z u : Value} (h : Quad10 w b o x y z u) : w.cell? ⟨b, o, none⟩ = some x ∧ w.cell? ⟨b, o + 1, none⟩ = some y ∧ w.cell? ⟨b, o + 2, none⟩ = some z ∧ w.cell? ⟨b, o + 3, none⟩ = some u := h
theorem Quad10.below {w w' : World} {b o : Nat} {x y z u : Value} (h : Quad10 w b o x y z u) (hb : Below w.heap.size w w') : Quad10 w' b o x y z u := by
  have hl := World.block_lt_of_cell? w _ h.1
  exact ⟨(hb.cell (p := ⟨b, o, none⟩) hl).trans h.1, (hb.cell (p := ⟨b, o + 1, none⟩) hl).trans h.2.1, (hb.cell (p := ⟨b, o + 2, none⟩) hl).trans h.2.2.1, (hb.cell (p := ⟨b, o + 3, none⟩) hl).trans h.2.2.2⟩

noncomputable def mayB (F : Int) (k : Nat) (N : Nat → Nat) (T : Nat → Nat → Nd) : Bool := @decide (ChkOut F k N T (.agg #[.int .i64 0, .int .i64 0, .int .i64 0, .int .i64 0])) (Classical.propDecidable _)
theorem mayB_of {F : Int} {k : Nat} {N : Nat → Nat} {T : Nat → Nat → Nd} {a s d : Int} (h : ChkOut F k N T (.agg #[.int .i64 a, .int .i64 0, .int .i64 s, .int .i64 d])) : decide (a = 0) = mayB F k N T := by
  unfold mayB
  by_cases e : a = 0
  · subst e
    obtain ⟨a2, s2, d2, e2, hz⟩ := h.open
    injection e2 with e2
    simp only [Array.mk.injEq, List.cons.injEq, Value.int.injEq, true_and, and_true] at e2
    obtain ⟨e0, es, ed⟩ := e2
    obtain ⟨rfl, rfl⟩ := hz e0.symm
    subst es ed
    rw [decide_eq_true rfl]
    exact (@decide_eq_true _ (Classical.propDecidable _) h).symm
  · rw [decide_eq_false e]
    refine (@decide_eq_false _ (Classical.propDecidable _) (fun h2 => e ?_)).symm
    have := h.one h2
    injection this with this
    simp only [Array.mk.injEq, List.cons.injEq, Value.int.injEq, true_and, and_true] at this
    exact this.1
theorem mayB_may {F : Int} {k : Nat} {N : Nat → Nat} {T : Nat → Nat → Nd} (h : mayB F k N T = true) : 0 ≤ F ∧ F ≤ 64 ∧ k ≤ 64 ∧ ∀ i, i < k → MayT F (T i) (N i) := by
  unfold mayB at h
  exact (@of_decide_eq_true _ (Classical.propDecidable _) h).may
theorem tree_may (F : Int) (v : Value) (n : Nat) (t : Nat → Nd) (L : Nat) (w : World) (hv : TRow w v n t L) (ht : Tab w) (hL : 1 ≤ L) (hLM : L ≤ 30000) :
    Calls Tryd.prog 20 #[v, .int .i64 F] w fun e w' => e = .returned (.bool (mayB F 1 (fun _ => n) (fun _ => t))) ∧ Below w.heap.size w w' := by
  refine (tree_at F v n t L w hv ht hL hLM).mono ?_
  rintro e w' ⟨a, s, d, rfl, h, hb⟩
  exact ⟨by rw [mayB_of h], hb⟩
theorem ok_may (F : Int) (v : Value) (k : Nat) (N : Nat → Nat) (T : Nat → Nat → Nd) (L : Nat) (w : World) (hv : MRow w v k N T L) (ht : Tab w) (hL : 1 ≤ L) (hLM : L ≤ 30000) :
    Calls Tryd.prog 26 #[.agg #[.int .i64 F, v]] w fun e w' => e = .returned (.bool (mayB F k N T)) ∧ Below w.heap.size w w' := by
  refine (ok_at F v k N T L w hv ht hL hLM).mono ?_
  rintro e w' ⟨a, s, d, rfl, h, hb⟩
  exact ⟨by rw [mayB_of h], hb⟩
def WInv (t : Nat → Nd) (n : Nat) (r : Nat → Cl) (zs : List Nat) (x : Nat) : Prop := x < n ∧ ∃ pre, zs = pre ++ [x] ∧ pre ++ way t n r x = way t n r 0
theorem WInv.start {t : Nat → Nd} {n : Nat} (r : Nat → Cl) (h : 0 < n) : WInv t n r [0] 0 := ⟨h, [], rfl, rfl⟩
theorem WInv.leaf {t : Nat → Nd} {n : Nat} {r : Nat → Cl} {zs : List Nat} {x : Nat} (h : WInv t n r zs x) (hl : (t x).leaf = true) : zs = way t n r 0 := by
  obtain ⟨_, pre, e, h⟩ := h
  rw [way_leaf hl] at h
  rw [e, h]
theorem WInv.split {F : Int} {t : Nat → Nd} {n : Nat} {r : Nat → Cl} {zs : List Nat} {x : Nat} (h : WInv t n r zs x) (hm : MayT F t n) (hl : (t x).leaf = false) : WInv t n r (zs ++ [nxt (t x) r]) (nxt (t x) r) := by
  obtain ⟨hx, pre, e, h⟩ := h
  rw [hm.way_split r hx hl] at h
  refine ⟨(hm.nxt hx hl r).1, pre ++ [x], by rw [e], ?_⟩
  rw [← h, List.append_assoc]
  rfl
theorem WInv.len {F : Int} {t : Nat → Nd} {n : Nat} {r : Nat → Cl} {zs : List Nat} {x : Nat} (h : WInv t n r zs x) (hm : MayT F t n) : 1 ≤ zs.length ∧ zs.length ≤ n + 1 := by
  obtain ⟨hx, pre, e, h⟩ := h
  have h1 := hm.way_len r (x := 0) (by omega)
  rw [← h, List.length_append] at h1
  have := List.length_pos_iff.2 (way_ne t n r x)
  rw [e, List.length_append]
  simp
  omega
theorem int_app {B : Nat} {w : World} {g c k m : Nat} {zs ys : List Nat} (hz : zs.length = k) (hy : ys.length = m) (h : w.ownsRow B 3 1 (.slice (some ⟨g, 0, none⟩) (k + m) c) (k + m) (zs.map (fun x : Nat => Value.int .i64 (x : Int)) ++ ys.map (fun x : Nat => Value.int .i64 (x : Int)))) : IntOwn B w (.slice (some ⟨g, 0, none⟩) (k + m) c) (zs ++ ys) := by
  unfold IntOwn
  rw [List.length_append, List.map_append, hz, hy]
  exact h
theorem IntOwn.le {B B' : Nat} {w : World} {v : Value} {zs : List Nat} (h : IntOwn B w v zs) (hb : B' ≤ B) : IntOwn B' w v zs := by
  refine ⟨h.1, ?_⟩
  rcases h.2 with h | ⟨g, c, cur, e, h1, h2⟩
  · exact .inl h
  · exact .inr ⟨g, c, cur, e, Nat.le_trans hb h1, h2⟩

theorem lvs_take {t : Nat → Nd} {zs : List Nat} {j x : Nat} (hj : zs[j]? = some x) : (zs.take (j + 1)).filter (fun y => (t y).leaf) = (zs.take j).filter (fun y => (t y).leaf) ++ (if (t x).leaf = true then [x] else []) := by
  rw [List.take_add_one, hj, List.filter_append]
  congr 1
  cases h : (t x).leaf <;> simp [h]
set_option maxRecDepth 20000 in
set_option maxHeartbeats 2000000 in
theorem leaves8_no (F : Int) (vt : Value) (n : Nat) (t : Nat → Nd) (L : Nat) (w : World) (ht : TRow w vt n t L) (hT : Tab w) (hL : 1 ≤ L) (hM : L ≤ 30000) (hB : mayB F 1 (fun _ => n) (fun _ => t) = false) :
    Calls Tryd.prog 6 #[vt, .int .i64 F] w fun e w' => e = .returned (.slice none 0 0) ∧ Below w.heap.size w w' := by
  obtain ⟨ao, ct, rfl, htc, ht63⟩ := ht.open
  go_enter Tryd.func6, Tryd.ntmps6
  go_wp2_with fail
  refine (tree_may F _ n t L _ ht hT hL hM).mono ?_
  rintro e w1 ⟨rfl, b1⟩
  rw [hB]
  clear hB
  go_wp2
  go_ret
  exact ⟨rfl, b1⟩
set_option maxRecDepth 100000 in
set_option maxHeartbeats 8000000 in
theorem leaves8_yes (F : Int) (vt : Value) (n : Nat) (t : Nat → Nd) (L : Nat) (w : World) (ht : TRow w vt n t L) (hT : Tab w) (hL : 1 ≤ L) (hM : L ≤ 30000) (hB : mayB F 1 (fun _ => n) (fun _ => t) = true) (hm : MayT F t n) :
    Calls Tryd.prog 6 #[vt, .int .i64 F] w fun e w' => ∃ u, e = .returned u ∧ IntOwn w.heap.size w' u (lvs t n 0) ∧ Below w.heap.size w w' := by
  obtain ⟨ao, ct, rfl, htc, ht63⟩ := ht.open
  have hn255 := hm.few
  have hn0 := hm.pos
  have HMT : Hid (MayT F t n) := hm
  go_enter Tryd.func6, Tryd.ntmps6
  go_wp2_with fail
  refine (tree_may F _ n t L _ ht hT hL hM).mono ?_
  rintro e w1 ⟨rfl, b1⟩
  rw [hB]
  have ht1 := ht.below b1
  clear hB hm
  go_wp2_with fail
  refine (reached2_at _ n t L _ ht1 HMT.out.named HMT.out.once (by omega) hn255 ⟨F, HMT.out⟩).mono ?_
  rintro e W0 ⟨r, zs, rfl, hz, hR, b2⟩
  have HRS : Hid (∀ x, x ∈ zs → x < n) := fun x hx => hR.small x (by simpa using hx)
  have HZE : Hid (zs = pre t n 0) := hR.all
  have hzn : zs.length = n := hR.count
  obtain ⟨gz, cz, rfl, hzc⟩ := hz.open (by omega)
  have HZN : Hid (zs.length = n) := hzn
  have HZ0 : Hid (IntOwn w1.heap.size W0 (.slice (some ⟨gz, 0, none⟩) zs.length cz) zs) := hz
  have HT0 : Hid (TRow W0 (.slice ao n ct) n t L) := ht1.below b2
  have HB0 : Hid (Below w.heap.size w W0) := b1.trans (b2.mono b1.size)
  rw [hzn] at hzc ⊢
  clear hR hz ht ht1 b1 b2 hT hzn
  go_wp2
  go_loopw [5, 15] (fun vo vi wr => ∃ j : Nat, j ≤ n ∧ vi = .int .i64 (j : Int) ∧ IntOwn W0.heap.size wr vo ((zs.take j).filter (fun y => (t y).leaf)) ∧ Below W0.heap.size W0 wr) (fun _ vi _ => n - (intOf vi).toNat)
  case atStart => exact ⟨0, by omega, rfl, World.ownsRow_nil _ _ _ _, Below.refl _ _⟩
  case round =>
    obtain ⟨j, hj, rfl, hO, BL⟩ := hrel
    by_cases hlt : j < n
    · obtain ⟨x, hx⟩ : ∃ x, zs[j]? = some x := ⟨_, List.getElem?_eq_getElem (by have := HZN.out; omega)⟩
      have hxn : x < n := HRS.out x (List.mem_of_getElem? hx)
      have hzc2 := (HZ0.out.later BL).cell rfl hx
      have HTK : Hid ((zs.take (j + 1)).filter (fun y => (t y).leaf) = (zs.take j).filter (fun y => (t y).leaf) ++ (if (t x).leaf = true then [x] else [])) := lvs_take hx
      have hlf : ((zs.take j).filter (fun y => (t y).leaf)).length ≤ 255 := by
        have h1 := List.length_filter_le (fun y => (t y).leaf) (zs.take j)
        rw [List.length_take] at h1
        omega
      clear hx
      obtain ⟨ol, hol⟩ : ∃ l, (zs.take j).filter (fun y => (t y).leaf) = l := ⟨_, rfl⟩
      rw [hol] at hO HTK hlf
      clear hol
      obtain ⟨oa, oc, rfl, hoc⟩ := hO.form
      obtain ⟨k, hk⟩ : ∃ k, ol.length = k := ⟨_, rfl⟩
      rw [hk] at hO hlf hoc ⊢
      have f0 : (0 : Int) ≤ (j : Int) := by omega
      have f1 : (j : Int) < (n : Int) := by omega
      have wj : IntKind.i64.wrap ((j : Int) + 1) = (j : Int) + 1 := by rw [IntKind.wrap_i64]; omega
      have g0 : (0 : Int) ≤ (x : Int) := by omega
      have g1 : (x : Int) < (n : Int) := by omega
      obtain ⟨b, off, cc, p1, a1, n1, c1, b1, m1, d1, p2, a2, n2, c2, b2, m2, d2, p3, a3, n3, c3, b3, m3, d3, hvv, hcc, hc6, NN, r1, r2, r3, i1, i2, i3⟩ := (HT0.out.below BL).at hxn
      cases hvv
      obtain ⟨lf, hlf2⟩ : ∃ z, (t x).leaf = z := ⟨_, rfl⟩
      have N_0 := NN.c0
      rw [hlf2] at N_0 HTK
      clear NN r1 r2 r3 i1 i2 i3 hlf2
      cases lf
      · rw [if_neg (by simp), List.append_nil] at HTK
        go_wp2
        go_roundw
        case rel => exact ⟨j + 1, by omega, by go_num, by rw [HTK.out]; exact hO, BL⟩
        case measure => simp [intOf]; omega
      · rw [if_pos rfl] at HTK
        have hA3 : Below wr.heap.size wr (wr.alloc (.cells #[.int .i64 (x : Int)] 3)) := (Below.refl _ _).alloc (Nat.le_refl _) _
        have hO3 := hO.later hA3
        have BB3 := BL.trans (hA3.mono BL.size)
        have hsz3 := BB3.size
        have hO4 := int_len hk hO3
        have HK : Hid (ol.length = k) := hk
        clear hk hA3
        go_wp2_with (at_builtin; refine wpList_append_pureM (Q' := fun _ => False) rfl _ _ _ rfl W0.heap.size 3 (.int .i64 0) 1 8 Tryd.underlying27 info_int rfl (by omega) (.slice oa k oc) rfl k (ol.map (fun x : Nat => Value.int .i64 (x : Int))) hO4 (fun _ _ _ _ _ h => h) ⟨wr.heap.size, 0, none⟩ 1 1 (by omega) (by omega) rfl [.int .i64 (x : Int)] rfl (news_block (heap_alloc_new _ _)) (by simp [Value.oneCell']) (by simp) (by simp) (by omega) (by omega) hsz3 ?_; intro gn cn w3 hO5 hg5 hat5 _ _; have BB5 : Below W0.heap.size W0 w3 := below_grownB BB3 hg5 BB3.size (fun g h => (hO3.both g h).1); clear hg5 hat5 hO3 hO4 BB3 hO)
        go_roundw
        case rel => exact ⟨j + 1, by omega, by go_num, by rw [HTK.out]; exact int_app (ys := [x]) HK.out rfl hO5, BB5⟩
        case measure => simp [intOf]; omega
    · obtain rfl : j = n := by omega
      have f1 : ¬ (j : Int) < (j : Int) := by omega
      have h1 : (zs.take j).filter (fun y => (t y).leaf) = lvs t j 0 := by
        rw [List.take_of_length_le (by have := HZN.out; omega), HZE.out]
        rfl
      rw [h1] at hO
      have hO2 := hO.le HB0.out.size
      obtain ⟨oa, oc, rfl, hoc⟩ := hO2.form
      have HOL : Hid (IntOwn w.heap.size wr (.slice oa (lvs t j 0).length oc) (lvs t j 0)) := hO2
      clear h1 hO2
      clear hO
      go_wp2
      go_ret
      exact ⟨_, rfl, HOL.out, HB0.out.trans (BL.mono HB0.out.size)⟩

theorem MayT.ahead {F : Int} {t : Nat → Nd} {n : Nat} (h : MayT F t n) {x : Nat} (hx : x < n) : ∀ j y : Nat, (pre t n x)[j]? = some y → y = x ∨ ∃ i z : Nat, i < j ∧ (pre t n x)[i]? = some z ∧ (t z).leaf = false ∧ (kl t z = y ∨ kr t z = y) := by
  refine h.by_tree (P := fun x => ∀ j y : Nat, (pre t n x)[j]? = some y → y = x ∨ ∃ i z : Nat, i < j ∧ (pre t n x)[i]? = some z ∧ (t z).leaf = false ∧ (kl t z = y ∨ kr t z = y)) ?_ ?_ hx
  · intro x hx hl j y hj
    rw [pre_leaf hl] at hj
    cases j with
    | zero => left; simpa using hj.symm
    | succ j => simp at hj
  · intro x hx hl h1 h2 j y hj
    rw [h.pre_split hx hl] at hj ⊢
    cases j with
    | zero => left; simpa using hj.symm
    | succ j =>
      right
      rw [List.getElem?_cons_succ] at hj
      by_cases hjl : j < (pre t n (kl t x)).length
      · rw [List.getElem?_append_left hjl] at hj
        rcases h1 j y hj with rfl | ⟨i, z, hi, hz, hlz, hk⟩
        · exact ⟨0, x, by omega, by simp, hl, .inl rfl⟩
        · exact ⟨i + 1, z, by omega, by rw [List.getElem?_cons_succ, List.getElem?_append_left (by omega)]; exact hz, hlz, hk⟩
      · rw [List.getElem?_append_right (by omega)] at hj
        rcases h2 _ y hj with rfl | ⟨i, z, hi, hz, hlz, hk⟩
        · exact ⟨0, x, by omega, by simp, hl, .inr rfl⟩
        · refine ⟨i + (pre t n (kl t x)).length + 1, z, by omega, ?_, hlz, hk⟩
          rw [List.getElem?_cons_succ, List.getElem?_append_right (by omega), Nat.add_sub_cancel]
          exact hz
def dpt (t : Nat → Nd) (n x : Nat) : Int := (lvl t n x : Int) - (lvl t n 0 : Int)
structure DepI (t : Nat → Nd) (n : Nat) (zs : List Nat) (j : Nat) (d : Int) (av : Nat → Int) : Prop where
  av : ∀ y, (y = 0 ∨ ∃ i z : Nat, i < j ∧ zs[i]? = some z ∧ (t z).leaf = false ∧ (kl t z = y ∨ kr t z = y)) → av y = dpt t n y
  d0 : 0 ≤ d
  up : ∀ i z : Nat, i < j → zs[i]? = some z → dpt t n z ≤ d
  at_ : d = 0 ∨ ∃ i z : Nat, i < j ∧ zs[i]? = some z ∧ dpt t n z = d
theorem DepI.start (t : Nat → Nd) (n : Nat) (zs : List Nat) : DepI t n zs 0 0 (fun _ => 0) :=
  ⟨fun y h => by
    rcases h with rfl | ⟨i, z, hi, _⟩
    · show (0 : Int) = (lvl t n 0 : Int) - (lvl t n 0 : Int); omega
    · omega, by omega, fun i z hi => by omega, .inl rfl⟩
theorem DepI.here {F : Int} {t : Nat → Nd} {n : Nat} {zs : List Nat} {j : Nat} {d : Int} {av : Nat → Int} (h : DepI t n zs j d av) (hm : MayT F t n) (hz : zs = pre t n 0) {x : Nat} (hx : zs[j]? = some x) : av x = dpt t n x := by
  refine h.av x ?_
  subst hz
  exact hm.ahead hm.pos j x hx
theorem DepI.most {t : Nat → Nd} {n : Nat} {zs : List Nat} {j : Nat} {d : Int} {av : Nat → Int} (h : DepI t n zs j d av) {x : Nat} (hx : zs[j]? = some x) : 0 ≤ max d (dpt t n x) ∧ (∀ i z : Nat, i < j + 1 → zs[i]? = some z → dpt t n z ≤ max d (dpt t n x)) ∧ (max d (dpt t n x) = 0 ∨ ∃ i z : Nat, i < j + 1 ∧ zs[i]? = some z ∧ dpt t n z = max d (dpt t n x)) := by
  have h0 := h.d0
  refine ⟨by omega, fun i z hi hz => ?_, ?_⟩
  · by_cases e : i = j
    · subst e
      rw [hx] at hz
      cases hz
      omega
    · have := h.up i z (by omega) hz
      omega
  · by_cases e : dpt t n x ≤ d
    · have e2 : max d (dpt t n x) = d := by omega
      rw [e2]
      rcases h.at_ with h1 | ⟨i, z, hi, hz, hd⟩
      · exact .inl h1
      · exact .inr ⟨i, z, by omega, hz, hd⟩
    · have e2 : max d (dpt t n x) = dpt t n x := by omega
      rw [e2]
      exact .inr ⟨j, x, by omega, hx, rfl⟩
theorem DepI.leaf {t : Nat → Nd} {n : Nat} {zs : List Nat} {j : Nat} {d : Int} {av : Nat → Int} (h : DepI t n zs j d av) {x : Nat} (hx : zs[j]? = some x) (hl : (t x).leaf = true) : DepI t n zs (j + 1) (max d (dpt t n x)) av := by
  obtain ⟨m1, m2, m3⟩ := h.most hx
  refine ⟨fun y hy => h.av y ?_, m1, m2, m3⟩
  rcases hy with rfl | ⟨i, z, hi, hz, hlz, hk⟩
  · exact .inl rfl
  · by_cases e : i = j
    · subst e
      rw [hx] at hz
      cases hz
      rw [hl] at hlz
      cases hlz
    · exact .inr ⟨i, z, by omega, hz, hlz, hk⟩
theorem DepI.split {F : Int} {t : Nat → Nd} {n : Nat} {zs : List Nat} {j : Nat} {d : Int} {av : Nat → Int} (h : DepI t n zs j d av) (hm : MayT F t n) {x : Nat} (hx : zs[j]? = some x) (hxn : x < n) (hl : (t x).leaf = false) : DepI t n zs (j + 1) (max d (dpt t n x)) (fun y => if y = kr t x then dpt t n x + 1 else if y = kl t x then dpt t n x + 1 else av y) := by
  obtain ⟨m1, m2, m3⟩ := h.most hx
  obtain ⟨_, _, _, _, _, _, l1, l2⟩ := hm.kids hxn hl
  have e1 : dpt t n (kl t x) = dpt t n x + 1 := by unfold dpt; omega
  have e2 : dpt t n (kr t x) = dpt t n x + 1 := by unfold dpt; omega
  refine ⟨fun y hy => ?_, m1, m2, m3⟩
  show (if y = kr t x then dpt t n x + 1 else if y = kl t x then dpt t n x + 1 else av y) = dpt t n y
  by_cases a1 : y = kr t x
  · subst a1
    rw [if_pos rfl, e2]
  · by_cases a2 : y = kl t x
    · subst a2
      rw [if_neg a1, if_pos rfl, e1]
    · rw [if_neg a1, if_neg a2]
      refine h.av y ?_
      rcases hy with rfl | ⟨i, z, hi, hz, hlz, hk⟩
      · exact .inl rfl
      · by_cases e : i = j
        · subst e
          rw [hx] at hz
          cases hz
          rcases hk with hk | hk
          · exact absurd hk.symm a2
          · exact absurd hk.symm a1
        · exact .inr ⟨i, z, by omega, hz, hlz, hk⟩
theorem DepI.done {F : Int} {t : Nat → Nd} {n : Nat} {zs : List Nat} {j : Nat} {d : Int} {av : Nat → Int} (h : DepI t n zs j d av) (hm : MayT F t n) (hz : zs = pre t n 0) (hj : zs.length = j) : d = (dp t n 0 : Int) := by
  obtain ⟨a, y, hy, e⟩ := hm.dp_max hm.pos
  subst hz
  obtain ⟨i, hi, hiy⟩ := List.getElem_of_mem hy
  have h1 := h.up i y (by omega) (by rw [List.getElem?_eq_getElem hi, hiy])
  have h2 : dpt t n y = (dp t n 0 : Int) := by unfold dpt; omega
  rcases h.at_ with h3 | ⟨i2, z, _, hz, hd⟩
  · omega
  · have h4 := a z (List.mem_of_getElem? hz)
    have h5 : dpt t n z ≤ (dp t n 0 : Int) := by unfold dpt; omega
    omega
theorem MayT.dpt_few {F : Int} {t : Nat → Nd} {n : Nat} (hm : MayT F t n) {x : Nat} (hx : x < n) : -255 ≤ dpt t n x ∧ dpt t n x ≤ 255 := by
  have h1 := hm.lvl_le hx
  have h2 := hm.lvl_le hm.pos
  have h3 := hm.few
  unfold dpt
  omega



def VArr (w : World) (g k i : Nat) (q : Nat → Rat) : Prop := ∃ el, Arr3 w g k el ∧ ∀ j, j < i → RepQ w (elv el j) (q j)
theorem VArr.below {w w' : World} {g k i : Nat} {q : Nat → Rat} (h : VArr w g k i q) (hb : Below w.heap.size w w') : VArr w' g k i q := let ⟨el, a, b⟩ := h; ⟨el, a.below hb, fun j hj => (b j hj).below hb⟩
theorem VArr.put {w : World} {g k i : Nat} {q : Nat → Rat} (h : VArr w g k i q) (hi : i < k) {p : Bool} {a b : Option Addr} {n c m d : Nat} (hr : RepQ w (.agg #[.bool p, .slice a n c, .slice b m d]) (q i)) : ∃ u0 u1 u2, w.cell? ⟨g, i * 3, none⟩ = some u0 ∧ w.cell? ⟨g, i * 3 + 1, none⟩ = some u1 ∧ w.cell? ⟨g, i * 3 + 2, none⟩ = some u2 ∧ w.frozen? ⟨g, i * 3, none⟩ = false ∧ w.frozen? ⟨g, i * 3 + 1, none⟩ = false ∧ w.frozen? ⟨g, i * 3 + 2, none⟩ = false ∧
    VArr (((w.setCell ⟨g, i * 3, none⟩ (.bool p)).setCell ⟨g, i * 3 + 1, none⟩ (.slice a n c)).setCell ⟨g, i * 3 + 2, none⟩ (.slice b m d)) g k (i + 1) q := by
  obtain ⟨el, A, R⟩ := h
  obtain ⟨A2, K2⟩ := A.set i hi (.bool p) (.slice a n c) (.slice b m d) (num_bool _) (num_slice _ _ _) (num_slice _ _ _)
  refine ⟨_, _, _, A.1 i hi 0 (by omega), A.1 i hi 1 (by omega), A.1 i hi 2 (by omega), A.2.1 i hi 0 (by omega), A.2.1 i hi 1 (by omega), A.2.1 i hi 2 (by omega), _, A2, fun j hj => ?_⟩
  by_cases e : j = i
  · subst e
    have := hr.keep K2
    simpa [elv, upd3] using this
  · have := (R j (by omega)).keep K2
    simp only [elv, upd3_other el i j _ _ _ e] at *
    exact this
theorem VArr.row {w : World} {g k : Nat} {q : Nat → Rat} (h : VArr w g k k q) (hk : k ≤ 100000) : FRow w (.slice (some ⟨g, 0, none⟩) k k) k q :=
  let ⟨el, a, b⟩ := h; ⟨el, a.row k k (Nat.le_refl _) (Nat.le_refl _) (by omega), b⟩
noncomputable def whyI (F : Int) (k : Nat) (N : Nat → Nat) (T : Nat → Nat → Nd) (nr : Nat) : Int := if mayB F k N T = true then (if (nr : Int) = F then 0 else 14) else 1
theorem whyI_no {F : Int} {k : Nat} {N : Nat → Nat} {T : Nat → Nat → Nd} {nr : Nat} (h : mayB F k N T = false) : whyI F k N T nr = 1 := by unfold whyI; rw [h]; rfl
theorem whyI_len {F : Int} {k : Nat} {N : Nat → Nat} {T : Nat → Nat → Nd} {nr : Nat} (h : mayB F k N T = true) (h2 : ¬ (nr : Int) = F) : whyI F k N T nr = 14 := by unfold whyI; rw [if_pos h, if_neg h2]
theorem whyI_yes {F : Int} {k : Nat} {N : Nat → Nat} {T : Nat → Nat → Nd} {nr : Nat} (h : mayB F k N T = true) (h2 : (nr : Int) = F) : whyI F k N T nr = 0 := by unfold whyI; rw [if_pos h, if_pos h2]
theorem leafV_sz {w : World} {v : Value} {k : Nat} {N : Nat → Nat} {T : Nat → Nat → Nd} {L : Nat} {F : Int} (h : MRow w v k N T L) (hL : 1 ≤ L) (hm : ∀ i, i < k → MayT F (T i) (N i)) (r : Nat → Cl) : ∀ i, i < k → qsz (leafV T N r i) ≤ L := by
  intro i hi
  obtain ⟨b, off, c, a, d, _, _, _, TR⟩ := h.at hi
  have hp := (hm i hi).pos
  have hw := (hm i hi).wlast_is r (x := 0) (by omega)
  obtain ⟨_, _, _, _, _, _, _, _, _, _, _, _, _, _, _, _, _, _, _, _, _, _, _, _, _, _, _, _, _, r2, _⟩ := TR.at hw.1
  exact r2.qsz hL

structure Cel10 (w : World) (b o : Nat) (x : Value) : Prop where
  cell : w.cell? ⟨b, o, none⟩ = some x
theorem Cel10.lt {w : World} {b o : Nat} {x : Value} (h : Cel10 w b o x) : b < w.heap.size := World.block_lt_of_cell? _ _ h.cell
theorem Cel10.below {w w' : World} {b o : Nat} {x : Value} (h : Cel10 w b o x) (hb : Below w.heap.size w w') : Cel10 w' b o x := ⟨(hb.cell (p := ⟨b, o, none⟩) h.lt).trans h.cell⟩
theorem Cel10.from {B : Nat} {w w' : World} {b o : Nat} {x : Value} (h : w.cell? ⟨b, o, none⟩ = some x) (hb : Below w.heap.size w w') : Cel10 w' b o x := ⟨(hb.cell (p := ⟨b, o, none⟩) (World.block_lt_of_cell? _ _ h)).trans h⟩
theorem Cel10.other3 {w : World} {b o R : Nat} {x : Value} (h : Cel10 w b o x) (hne : b ≠ R) (u0 u1 u2 : Value) : Cel10 (((w.setCell ⟨R, 0, none⟩ u0).setCell ⟨R, 1, none⟩ u1).setCell ⟨R, 2, none⟩ u2) b o x :=
  ⟨by rw [World.cell?_setCell_other _ _ _ _ (fun e => by injection e; omega), World.cell?_setCell_other _ _ _ _ (fun e => by injection e; omega), World.cell?_setCell_other _ _ _ _ (fun e => by injection e; omega)]; exact h.cell⟩
theorem int_lastcell {B : Nat} {w : World} {v : Value} {zs : List Nat} (h : IntOwn B w v zs) (hne : zs ≠ []) : ∃ g c k, v = .slice (some ⟨g, 0, none⟩) (k + 1) c ∧ B ≤ g ∧ k + 1 = zs.length ∧ w.cell? ⟨g, k, none⟩ = some (.int .i64 ((zs.getLastD 0 : Nat) : Int)) := by
  obtain ⟨g, c, rfl, hc⟩ := h.open (List.length_pos_iff.2 hne)
  rcases List.eq_nil_or_concat zs with rfl | ⟨ws, i, rfl⟩
  · exact absurd rfl hne
  rw [List.concat_eq_append] at *
  have hl : (ws ++ [i]).length = ws.length + 1 := by simp
  have := h.cell rfl (j := ws.length) (x := i) (by simp)
  refine ⟨g, c, ws.length, by rw [hl], (h.both g rfl).1, hl.symm, ?_⟩
  rw [this]
  simp

structure IAr8 (w : World) (g n : Nat) (f : Nat → Int) : Prop where
  cell : ∀ i, i < n → w.cell? ⟨g, i, none⟩ = some (.int .i64 (f i))
  soft : ∀ i, i < n → w.frozen? ⟨g, i, none⟩ = false
theorem IAr8.lt {w : World} {g n : Nat} {f : Nat → Int} (h : IAr8 w g n f) (hn : 0 < n) : g < w.heap.size := World.block_lt_of_cell? _ _ (h.cell 0 hn)
theorem IAr8.below {w w' : World} {g n : Nat} {f : Nat → Int} (h : IAr8 w g n f) (hb : Below w.heap.size w w') : IAr8 w' g n f :=
  ⟨fun i hi => (hb.cell (p := ⟨g, i, none⟩) (World.block_lt_of_cell? _ _ (h.cell i hi))).trans (h.cell i hi), fun i hi => (hb.frozen (p := ⟨g, i, none⟩) (World.block_lt_of_cell? _ _ (h.cell i hi))).trans (h.soft i hi)⟩
theorem IAr8.block {w w' : World} {g n : Nat} {f : Nat → Int} (h : IAr8 w g n f) (hb : w'.heap[g]? = w.heap[g]?) : IAr8 w' g n f :=
  ⟨fun i hi => (World.cell?_of_block (a := ⟨g, i, none⟩) hb).trans (h.cell i hi), fun i hi => (World.frozen?_of_block (a := ⟨g, i, none⟩) hb).trans (h.soft i hi)⟩
theorem IAr8.put {w : World} {g n : Nat} {f : Nat → Int} (h : IAr8 w g n f) {i : Nat} (hi : i < n) (v : Int) : IAr8 (w.setCell ⟨g, i, none⟩ (.int .i64 v)) g n (fun j => if j = i then v else f j) := by
  refine ⟨fun j hj => ?_, fun j hj => by simp [h.soft j hj]⟩
  by_cases e : j = i
  · subst e
    rw [if_pos rfl]
    exact World.cell?_setCell_same _ _ _ (h.cell j hj)
  · rw [if_neg e]
    exact cell_set_by (h.cell j hj) e
theorem IAr8.keep {w : World} {g n : Nat} {f : Nat → Int} (h : IAr8 w g n f) {i : Nat} (hi : i < n) (v : Value) : KeepQ IsLimb w (w.setCell ⟨g, i, none⟩ v) := keepL_set (h.cell i hi) (limb_int _) v
theorem IAr8.congr {w : World} {g n : Nat} {f f' : Nat → Int} (h : IAr8 w g n f) (e : ∀ j, j < n → f j = f' j) : IAr8 w g n f' := ⟨fun i hi => e i hi ▸ h.cell i hi, h.soft⟩
theorem V14.block8 {W W' : World} {R : Nat} {x0 x1 x2 x3 x4 x5 x6 x7 x8 x9 x10 x11 x12 x13 : Value} (h : V14 W R x0 x1 x2 x3 x4 x5 x6 x7 x8 x9 x10 x11 x12 x13) (hb : W'.heap[R]? = W.heap[R]?) : V14 W' R x0 x1 x2 x3 x4 x5 x6 x7 x8 x9 x10 x11 x12 x13 :=
  ⟨(World.cell?_of_block hb).trans h.c0, (World.cell?_of_block hb).trans h.c1, (World.cell?_of_block hb).trans h.c2, (World.cell?_of_block hb).trans h.c3, (World.cell?_of_block hb).trans h.c4, (World.cell?_of_block hb).trans h.c5, (World.cell?_of_block hb).trans h.c6, (World.cell?_of_block hb).trans h.c7, (World.cell?_of_block hb).trans h.c8, (World.cell?_of_block hb).trans h.c9, (World.cell?_of_block hb).trans h.c10, (World.cell?_of_block hb).trans h.c11, (World.cell?_of_block hb).trans h.c12, (World.cell?_of_block hb).trans h.c13⟩
def ZC8 (w : World) (g : Nat) (zs : List Nat) : Prop := ∀ j x : Nat, zs[j]? = some x → w.cell? ⟨g, j, none⟩ = some (.int .i64 (x : Int))
theorem ZC8.below {w w' : World} {g : Nat} {zs : List Nat} (h : ZC8 w g zs) (hb : Below w.heap.size w w') : ZC8 w' g zs := fun j x hx => (hb.cell (p := ⟨g, j, none⟩) (World.block_lt_of_cell? _ _ (h j x hx))).trans (h j x hx)
theorem ZC8.block {w w' : World} {g : Nat} {zs : List Nat} (h : ZC8 w g zs) (hb : w'.heap[g]? = w.heap[g]?) : ZC8 w' g zs := fun j x hx => (World.cell?_of_block (a := ⟨g, j, none⟩) hb).trans (h j x hx)
theorem info_intT : (Tryd.prog.info? 3).map (fun i => (i.zero, i.size, i.bytes)) = some (some (.int .i64 0), 1, 8) := by kernel_rfl
theorem made_zero8 (n i : Nat) (h : i < n) : (madeCells (Value.int .i64 0).cells (n * 1)).toList[i]? = some (.int .i64 0) := by
  simp [madeCells, Value.cells, h, Nat.mod_one]
set_option maxRecDepth 20000 in
set_option maxHeartbeats 2000000 in
theorem depth8_no (F : Int) (vt : Value) (n : Nat) (t : Nat → Nd) (L : Nat) (w : World) (ht : TRow w vt n t L) (hT : Tab w) (hL : 1 ≤ L) (hM : L ≤ 30000) (hB : mayB F 1 (fun _ => n) (fun _ => t) = false) :
    Calls Tryd.prog 7 #[vt, .int .i64 F] w fun e w' => e = .returned (.int .i64 (-1)) ∧ Below w.heap.size w w' := by
  obtain ⟨ao, ct, rfl, htc, ht63⟩ := ht.open
  go_enter Tryd.func7, Tryd.ntmps7
  go_wp2_with fail
  refine (tree_may F _ n t L _ ht hT hL hM).mono ?_
  rintro e w1 ⟨rfl, b1⟩
  rw [hB]
  clear hB
  go_wp2
  go_ret
  exact ⟨rfl, b1⟩
set_option maxRecDepth 100000 in
set_option maxHeartbeats 16000000 in
theorem depth8_yes (F : Int) (vt : Value) (n : Nat) (t : Nat → Nd) (L : Nat) (w : World) (ht : TRow w vt n t L) (hT : Tab w) (hL : 1 ≤ L) (hM : L ≤ 30000) (hB : mayB F 1 (fun _ => n) (fun _ => t) = true) (hm : MayT F t n) :
    Calls Tryd.prog 7 #[vt, .int .i64 F] w fun e w' => e = .returned (.int .i64 (dp t n 0 : Int)) ∧ Below w.heap.size w w' := by
  obtain ⟨ao, ct, rfl, htc, ht63⟩ := ht.open
  have hn255 := hm.few
  have hn0 := hm.pos
  have HMT : Hid (MayT F t n) := hm
  have HT0 : Hid (TRow w (.slice ao n ct) n t L) := ht
  go_enter Tryd.func7, Tryd.ntmps7
  go_wp2_with fail
  refine (tree_may F _ n t L _ ht hT hL hM).mono ?_
  rintro e w1 ⟨rfl, b1⟩
  rw [hB]
  clear hB hm hT ht
  obtain ⟨i0, hi, hz0, hz1, hz2⟩ := info_parts info_intT
  go_wp2_with (at_make; refine wpList_make_full _ rfl _ _ 27 rfl _ 3 i0 (.int .i64 0) 1 Tryd.underlying27 hi hz0 hz1 _ _ _ _ n rfl rfl (by omega) (by omega) (by rw [hz2]; omega) (by unfold maxLen; omega) (Nat.le_refl _) ?_; intro w2 hown hgrow; have hb1 := below_grown hgrow)
  have IA : IAr8 w2 w1.heap.size n (fun _ => 0) := ⟨fun j hj => owns_cell hown (made_zero8 n j hj), fun j hj => hown.frozenAt _⟩
  have hGB : w.heap.size ≤ w1.heap.size := b1.size
  have hG2 : w1.heap.size < w2.heap.size := (owns_cap hown).2.2
  have BB : Below w.heap.size w w2 := b1.trans (hb1.mono b1.size)
  clear hown hgrow hb1 hi hz0 hz1 hz2 b1
  generalize w1.heap.size = G at *
  refine (reached2_at _ n t L _ (HT0.out.below BB) HMT.out.named HMT.out.once (by omega) hn255 ⟨F, HMT.out⟩).mono ?_
  rintro e w3 ⟨r, zs, rfl, hz, hR, b3⟩
  have HRS : Hid (∀ x, x ∈ zs → x < n) := fun x hx => hR.small x (by simpa using hx)
  have HZE : Hid (zs = pre t n 0) := hR.all
  have hzn : zs.length = n := hR.count
  obtain ⟨gz, cz, rfl, hzc⟩ := hz.open (by omega)
  have hgz : gz ≠ G := by have := (hz.both gz rfl).1; omega
  have ZC : ZC8 w3 gz zs := fun j x hx => hz.cell rfl hx
  replace IA := IA.below b3
  replace BB := BB.trans (b3.mono BB.size)
  have HZN : Hid (zs.length = n) := hzn
  rw [hzn] at hzc ⊢
  clear hR hz b3 hzn hG2
  have HDI : Hid (DepI t n zs 0 0 (fun _ => 0)) := DepI.start t n zs
  go_wp2
  go_loopw [5, 20] (fun vd vi wr => ∃ (j : Nat) (d : Int) (av : Nat → Int), j ≤ n ∧ vi = .int .i64 (j : Int) ∧ vd = .int .i64 d ∧ IAr8 wr G n av ∧ ZC8 wr gz zs ∧ Hid (DepI t n zs j d av) ∧ Below w.heap.size w wr) (fun _ vi _ => n - (intOf vi).toNat)
  case atStart => exact ⟨0, 0, _, by omega, rfl, rfl, IA, ZC, HDI, BB⟩
  case round =>
    clear IA ZC HDI BB
    obtain ⟨j, d, av, hj, rfl, rfl, IA, ZC, HDI, BB⟩ := hrel
    by_cases hlt : j < n
    · obtain ⟨x, hx⟩ : ∃ x, zs[j]? = some x := ⟨_, List.getElem?_eq_getElem (by have := HZN.out; omega)⟩
      have hxn : x < n := HRS.out x (List.mem_of_getElem? hx)
      have HX : Hid (zs[j]? = some x) := hx
      have XZ := ZC j x hx
      have hav : av x = dpt t n x := HDI.out.here HMT.out HZE.out hx
      have hdf := HMT.out.dpt_few hxn
      have XA := IA.cell x hxn
      rw [hav] at XA
      have HAV : Hid (av x = dpt t n x) := hav
      clear hav hx
      have f0 : (0 : Int) ≤ (j : Int) := by omega
      have f1 : (j : Int) < (n : Int) := by omega
      have wj : IntKind.i64.wrap ((j : Int) + 1) = (j : Int) + 1 := by rw [IntKind.wrap_i64]; omega
      have g0 : (0 : Int) ≤ (x : Int) := by omega
      have g1 : (x : Int) < (n : Int) := by omega
      obtain ⟨b, off, cc, p1, a1, n1, c1, b1, m1, d1, p2, a2, n2, c2, b2, m2, d2, p3, a3, n3, c3, b3, m3, d3, hvv, hcc, hc6, NN0, r1, r2, r3, i1_, i2_, i3_⟩ := HT0.out.at hxn
      cases hvv
      have NN := NN0.below BB
      clear r1 r2 r3 i1_ i2_ i3_ NN0
      cases hlf : (t x).leaf
      · obtain ⟨e1, e2, k1, k2, k3, k4, l1, l2⟩ := HMT.out.kids hxn hlf
        have HD2 := HDI.out.split HMT.out HX.out hxn hlf
        have hxl : x ≠ kl t x := fun e => by rw [← e] at l1; omega
        have hxr : x ≠ kr t x := fun e => by rw [← e] at l2; omega
        rw [hlf, e1, e2] at NN
        obtain ⟨dm, hdm⟩ : ∃ z, max d (dpt t n x) = z := ⟨_, rfl⟩
        rw [hdm] at HD2
        have HDI2 : Hid (DepI t n zs (j + 1) dm _) := HD2
        have hgl : G < wr.heap.size := IA.lt (by omega)
        clear hlf e1 e2 k1 k3 l1 l2 HDI HD2
        generalize kl t x = lr at *
        generalize kr t x = rr at *
        generalize dpt t n x = dx at *
        have q0 : (0 : Int) ≤ (lr : Int) := by omega
        have q1 : (lr : Int) < (n : Int) := by omega
        have q2 : (0 : Int) ≤ (rr : Int) := by omega
        have q3 : (rr : Int) < (n : Int) := by omega
        have wd : IntKind.i64.wrap (dx + 1) = dx + 1 := by rw [IntKind.wrap_i64]; omega
        obtain ⟨N_0, N_1, N_2, N_3, N_4, N_5, N_6, N_7, N_8, N_9, N_10, N_11, N_12, N_13⟩ := id NN
        obtain ⟨W7, hW7, hS7, hL7, VN, FN⟩ := V14.lay wr 44 (.bool false) (.int .i64 (t x).feat) (.bool p1) (.slice a1 n1 c1) (.slice b1 m1 d1) (.int .i64 (lr : Int)) (.int .i64 (rr : Int)) (.bool (t x).miss) (.bool p2) (.slice a2 n2 c2) (.slice b2 m2 d2) (.bool p3) (.slice a3 n3 c3) (.slice b3 m3 d3)
        replace IA := IA.below hL7
        replace ZC := ZC.below hL7
        replace BB := BB.trans (hL7.mono BB.size)
        clear hL7
        obtain ⟨V_0, V_1, V_2, V_3, V_4, V_5, V_6, V_7, V_8, V_9, V_10, V_11, V_12, V_13⟩ := id VN
        rw [hW7] at V_0 V_1 V_2 V_3 V_4 V_5 V_6 V_7 V_8 V_9 V_10 V_11 V_12 V_13
        by_cases hmx : d < dx
        · obtain rfl : dx = dm := by omega
          go_wp2
          rw [← hW7]
          clear V_0 V_1 V_2 V_3 V_4 V_5 V_6 V_7 V_8 V_9 V_10 V_11 V_12 V_13 N_0 N_1 N_2 N_3 N_4 N_5 N_6 N_7 N_8 N_9 N_10 N_11 N_12 N_13 hW7 FN NN XZ XA
          have hGR : wr.heap.size ≠ G := by omega
          generalize wr.heap.size = R8 at *
          have hDr : Below W7.heap.size W7 W7.drew := (Below.refl _ _).drew
          replace IA := IA.below hDr
          replace ZC := ZC.below hDr
          replace VN := VN.below hDr
          replace BB := BB.trans (hDr.mono BB.size)
          clear hDr
          refine wp_region_held_drew (S := (fun w' => w'.cell? ⟨R8, 5, none⟩ = some (.int .i64 (lr : Int)) ∧ w'.cell? ⟨G, x, none⟩ = some (.int .i64 dx))) (by kernel_rfl) ?_ (fun hHeld => ?_)
          · exact ⟨VN.c5, (by have h9 := IA.cell x hxn; simp only [if_neg hxl, if_neg hxr, HAV.out] at h9; exact h9)⟩
          generalize W7.drew = W81 at *
          refine wpAnyH_take (i := 0) (v := ?_) (by simp only [List.getElem?_toArray, List.getElem?_cons_succ, List.getElem?_cons_zero]; rfl) (by kernel_rfl) (by kernel_rfl) (by kernel_rfl) (by exact fun _ _ _ h => h) (Or.inl ⟨by rfl, ?_⟩) (by assumption) ?_
          rotate_left
          · (intro w hSw; (try dsimp only at hSw); go_simp; (try with_reducible rfl))
          (try simp only [Act.put, List.setIfInBounds_toArray, List.set_cons_zero, List.set_cons_succ])
          refine wpAnyH_take (i := 1) (v := ?_) (by simp only [List.getElem?_toArray, List.getElem?_cons_succ, List.getElem?_cons_zero]; rfl) (by kernel_rfl) (by kernel_rfl) (by kernel_rfl) (by exact fun _ _ _ h => h) (Or.inl ⟨by rfl, ?_⟩) (by assumption) ?_
          rotate_left
          · (intro w hSw; (try dsimp only at hSw); go_simp; (try with_reducible rfl))
          (try simp only [Act.put, List.setIfInBounds_toArray, List.set_cons_zero, List.set_cons_succ])
          refine wpAnyH_take (i := 2) (v := ?_) (by simp only [List.getElem?_toArray, List.getElem?_cons_succ, List.getElem?_cons_zero]; rfl) (by kernel_rfl) (by kernel_rfl) (by kernel_rfl) (by exact fun _ _ _ h => h) (Or.inl ⟨by rfl, ?_⟩) (by assumption) ?_
          rotate_left
          · (intro w hSw; (try dsimp only at hSw); go_simp; (try with_reducible rfl))
          (try simp only [Act.put, List.setIfInBounds_toArray, List.set_cons_zero, List.set_cons_succ])
          refine wpAnyH_take (i := 3) (v := ?_) (by simp only [List.getElem?_toArray, List.getElem?_cons_succ, List.getElem?_cons_zero]; rfl) (by kernel_rfl) (by kernel_rfl) (by kernel_rfl) (by exact fun _ _ _ h => h) (Or.inl ⟨by rfl, ?_⟩) (by assumption) ?_
          rotate_left
          · (intro w hSw; (try dsimp only at hSw); go_simp; (try with_reducible rfl))
          (try simp only [Act.put, List.setIfInBounds_toArray, List.set_cons_zero, List.set_cons_succ])
          refine wpAnyH_take (i := 4) (v := ?_) (by simp only [List.getElem?_toArray, List.getElem?_cons_succ, List.getElem?_cons_zero]; rfl) (by kernel_rfl) (by kernel_rfl) (by kernel_rfl) (by exact fun _ _ _ h => h) (Or.inl ⟨by rfl, ?_⟩) (by assumption) ?_
          rotate_left
          · (intro w hSw; (try dsimp only at hSw); go_simp; (try with_reducible rfl))
          (try simp only [Act.put, List.setIfInBounds_toArray, List.set_cons_zero, List.set_cons_succ])
          refine wpAnyH_take (i := 5) (v := ?_) (by simp only [List.getElem?_toArray, List.getElem?_cons_succ, List.getElem?_cons_zero]; rfl) (by kernel_rfl) (by kernel_rfl) (by kernel_rfl) (by exact fun _ _ _ h => h) (Or.inl ⟨by rfl, ?_⟩) (by assumption) ?_
          rotate_left
          · (intro w hSw; (try dsimp only at hSw); go_simp; (try with_reducible rfl))
          (try simp only [Act.put, List.setIfInBounds_toArray, List.set_cons_zero, List.set_cons_succ])
          refine wpAnyH_take (i := 6) (v := ?_) (by simp only [List.getElem?_toArray, List.getElem?_cons_succ, List.getElem?_cons_zero]; rfl) (by kernel_rfl) (by kernel_rfl) (by kernel_rfl) (by exact fun _ _ _ h => h) (Or.inl ⟨by rfl, ?_⟩) (by assumption) ?_
          rotate_left
          · (intro w hSw; (try dsimp only at hSw); go_simp; (try with_reducible rfl))
          (try simp only [Act.put, List.setIfInBounds_toArray, List.set_cons_zero, List.set_cons_succ])
          refine wpAnyH_take (i := 7) (v := ?_) (by simp only [List.getElem?_toArray, List.getElem?_cons_succ, List.getElem?_cons_zero]; rfl) (by kernel_rfl) (by kernel_rfl) (by kernel_rfl) (by exact fun _ _ _ h => h) (Or.inl ⟨by rfl, ?_⟩) (by assumption) ?_
          rotate_left
          · (intro w hSw; (try dsimp only at hSw); go_simp; (try with_reducible rfl))
          (try simp only [Act.put, List.setIfInBounds_toArray, List.set_cons_zero, List.set_cons_succ])
          refine wpAnyH_take (i := 8) (v := ?_) (by simp only [List.getElem?_toArray, List.getElem?_cons_succ, List.getElem?_cons_zero]; rfl) (by kernel_rfl) (by kernel_rfl) (by kernel_rfl) (by exact fun _ _ _ h => h) (Or.inl ⟨by rfl, ?_⟩) (by assumption) ?_
          rotate_left
          · (intro w hSw; (try dsimp only at hSw); go_simp; (try with_reducible rfl))
          (try simp only [Act.put, List.setIfInBounds_toArray, List.set_cons_zero, List.set_cons_succ])
          refine wpAnyH_ready (rs := [9]) (by kernel_rfl) (by simp) ?_
          refine AllReadyH.cons (by simp only [List.getElem?_toArray, List.getElem?_cons_succ, List.getElem?_cons_zero]; rfl) (fun K hK => ?_) AllReadyH.nil
          have s0 := IA.cell lr k2
          have s1 := IA.soft lr k2
          have IA2 : IAr8 (W81.setCell ⟨G, lr, none⟩ (.int .i64 (dx + 1))) G n _ := IA.put k2 (dx + 1)
          have ZC2 : ZC8 (W81.setCell ⟨G, lr, none⟩ (.int .i64 (dx + 1))) gz zs := ZC.block (Below.heap_setCell _ _ _ _ hgz)
          have VN2 : V14 (W81.setCell ⟨G, lr, none⟩ (.int .i64 (dx + 1))) R8 _ _ _ _ _ _ _ _ _ _ _ _ _ _ := VN.block8 (Below.heap_setCell _ _ _ _ hGR)
          have BB2 : Below w.heap.size w (W81.setCell ⟨G, lr, none⟩ (.int .i64 (dx + 1))) := BB.setCell (p := ⟨G, lr, none⟩) hGB _
          go_simp
          clear s0 s1 IA ZC VN BB
          have IA := IA2
          have ZC := ZC2
          have VN := VN2
          have BB := BB2
          clear IA2 ZC2 VN2 BB2
          generalize W81.setCell ⟨G, lr, none⟩ (.int .i64 (dx + 1)) = WP1 at *
          refine hK.out _ _ ?_ (fun hH1 => ?_)
          · exact ⟨VN.c5, (by have h9 := IA.cell x hxn; simp only [if_neg hxl, if_neg hxr, HAV.out] at h9; exact h9)⟩
          clear hK K hHeld
          (try simp only [Act.put, List.setIfInBounds_toArray, List.set_cons_zero, List.set_cons_succ])
          refine wpAnyH_done (by kernel_rfl) ?_ _
          clear hH1
          go_wp2
          have hDr : Below WP1.heap.size WP1 WP1.drew := (Below.refl _ _).drew
          replace IA := IA.below hDr
          replace ZC := ZC.below hDr
          replace VN := VN.below hDr
          replace BB := BB.trans (hDr.mono BB.size)
          clear hDr
          refine wp_region_held_drew (S := (fun w' => w'.cell? ⟨R8, 6, none⟩ = some (.int .i64 (rr : Int)) ∧ w'.cell? ⟨G, x, none⟩ = some (.int .i64 dx))) (by kernel_rfl) ?_ (fun hHeld => ?_)
          · exact ⟨VN.c6, (by have h9 := IA.cell x hxn; simp only [if_neg hxl, if_neg hxr, HAV.out] at h9; exact h9)⟩
          generalize WP1.drew = W82 at *
          refine wpAnyH_take (i := 0) (v := ?_) (by simp only [List.getElem?_toArray, List.getElem?_cons_succ, List.getElem?_cons_zero]; rfl) (by kernel_rfl) (by kernel_rfl) (by kernel_rfl) (by exact fun _ _ _ h => h) (Or.inl ⟨by rfl, ?_⟩) (by assumption) ?_
          rotate_left
          · (intro w hSw; (try dsimp only at hSw); go_simp; (try with_reducible rfl))
          (try simp only [Act.put, List.setIfInBounds_toArray, List.set_cons_zero, List.set_cons_succ])
          refine wpAnyH_take (i := 1) (v := ?_) (by simp only [List.getElem?_toArray, List.getElem?_cons_succ, List.getElem?_cons_zero]; rfl) (by kernel_rfl) (by kernel_rfl) (by kernel_rfl) (by exact fun _ _ _ h => h) (Or.inl ⟨by rfl, ?_⟩) (by assumption) ?_
          rotate_left
          · (intro w hSw; (try dsimp only at hSw); go_simp; (try with_reducible rfl))
          (try simp only [Act.put, List.setIfInBounds_toArray, List.set_cons_zero, List.set_cons_succ])
          refine wpAnyH_take (i := 2) (v := ?_) (by simp only [List.getElem?_toArray, List.getElem?_cons_succ, List.getElem?_cons_zero]; rfl) (by kernel_rfl) (by kernel_rfl) (by kernel_rfl) (by exact fun _ _ _ h => h) (Or.inl ⟨by rfl, ?_⟩) (by assumption) ?_
          rotate_left
          · (intro w hSw; (try dsimp only at hSw); go_simp; (try with_reducible rfl))
          (try simp only [Act.put, List.setIfInBounds_toArray, List.set_cons_zero, List.set_cons_succ])
          refine wpAnyH_take (i := 3) (v := ?_) (by simp only [List.getElem?_toArray, List.getElem?_cons_succ, List.getElem?_cons_zero]; rfl) (by kernel_rfl) (by kernel_rfl) (by kernel_rfl) (by exact fun _ _ _ h => h) (Or.inl ⟨by rfl, ?_⟩) (by assumption) ?_
          rotate_left
          · (intro w hSw; (try dsimp only at hSw); go_simp; (try with_reducible rfl))
          (try simp only [Act.put, List.setIfInBounds_toArray, List.set_cons_zero, List.set_cons_succ])
          refine wpAnyH_take (i := 4) (v := ?_) (by simp only [List.getElem?_toArray, List.getElem?_cons_succ, List.getElem?_cons_zero]; rfl) (by kernel_rfl) (by kernel_rfl) (by kernel_rfl) (by exact fun _ _ _ h => h) (Or.inl ⟨by rfl, ?_⟩) (by assumption) ?_
          rotate_left
          · (intro w hSw; (try dsimp only at hSw); go_simp; (try with_reducible rfl))
          (try simp only [Act.put, List.setIfInBounds_toArray, List.set_cons_zero, List.set_cons_succ])
          refine wpAnyH_take (i := 5) (v := ?_) (by simp only [List.getElem?_toArray, List.getElem?_cons_succ, List.getElem?_cons_zero]; rfl) (by kernel_rfl) (by kernel_rfl) (by kernel_rfl) (by exact fun _ _ _ h => h) (Or.inl ⟨by rfl, ?_⟩) (by assumption) ?_
          rotate_left
          · (intro w hSw; (try dsimp only at hSw); go_simp; (try with_reducible rfl))
          (try simp only [Act.put, List.setIfInBounds_toArray, List.set_cons_zero, List.set_cons_succ])
          refine wpAnyH_take (i := 6) (v := ?_) (by simp only [List.getElem?_toArray, List.getElem?_cons_succ, List.getElem?_cons_zero]; rfl) (by kernel_rfl) (by kernel_rfl) (by kernel_rfl) (by exact fun _ _ _ h => h) (Or.inl ⟨by rfl, ?_⟩) (by assumption) ?_
          rotate_left
          · (intro w hSw; (try dsimp only at hSw); go_simp; (try with_reducible rfl))
          (try simp only [Act.put, List.setIfInBounds_toArray, List.set_cons_zero, List.set_cons_succ])
          refine wpAnyH_take (i := 7) (v := ?_) (by simp only [List.getElem?_toArray, List.getElem?_cons_succ, List.getElem?_cons_zero]; rfl) (by kernel_rfl) (by kernel_rfl) (by kernel_rfl) (by exact fun _ _ _ h => h) (Or.inl ⟨by rfl, ?_⟩) (by assumption) ?_
          rotate_left
          · (intro w hSw; (try dsimp only at hSw); go_simp; (try with_reducible rfl))
          (try simp only [Act.put, List.setIfInBounds_toArray, List.set_cons_zero, List.set_cons_succ])
          refine wpAnyH_take (i := 8) (v := ?_) (by simp only [List.getElem?_toArray, List.getElem?_cons_succ, List.getElem?_cons_zero]; rfl) (by kernel_rfl) (by kernel_rfl) (by kernel_rfl) (by exact fun _ _ _ h => h) (Or.inl ⟨by rfl, ?_⟩) (by assumption) ?_
          rotate_left
          · (intro w hSw; (try dsimp only at hSw); go_simp; (try with_reducible rfl))
          (try simp only [Act.put, List.setIfInBounds_toArray, List.set_cons_zero, List.set_cons_succ])
          refine wpAnyH_ready (rs := [9]) (by kernel_rfl) (by simp) ?_
          refine AllReadyH.cons (by simp only [List.getElem?_toArray, List.getElem?_cons_succ, List.getElem?_cons_zero]; rfl) (fun K hK => ?_) AllReadyH.nil
          have s0 := IA.cell rr k4
          have s1 := IA.soft rr k4
          have IA2 : IAr8 (W82.setCell ⟨G, rr, none⟩ (.int .i64 (dx + 1))) G n _ := IA.put k4 (dx + 1)
          have ZC2 : ZC8 (W82.setCell ⟨G, rr, none⟩ (.int .i64 (dx + 1))) gz zs := ZC.block (Below.heap_setCell _ _ _ _ hgz)
          have VN2 : V14 (W82.setCell ⟨G, rr, none⟩ (.int .i64 (dx + 1))) R8 _ _ _ _ _ _ _ _ _ _ _ _ _ _ := VN.block8 (Below.heap_setCell _ _ _ _ hGR)
          have BB2 : Below w.heap.size w (W82.setCell ⟨G, rr, none⟩ (.int .i64 (dx + 1))) := BB.setCell (p := ⟨G, rr, none⟩) hGB _
          go_simp
          clear s0 s1 IA ZC VN BB
          have IA := IA2
          have ZC := ZC2
          have VN := VN2
          have BB := BB2
          clear IA2 ZC2 VN2 BB2
          generalize W82.setCell ⟨G, rr, none⟩ (.int .i64 (dx + 1)) = WP2 at *
          refine hK.out _ _ ?_ (fun hH1 => ?_)
          · exact ⟨VN.c6, (by have h9 := IA.cell x hxn; simp only [if_neg hxl, if_neg hxr, HAV.out] at h9; exact h9)⟩
          clear hK K hHeld
          (try simp only [Act.put, List.setIfInBounds_toArray, List.set_cons_zero, List.set_cons_succ])
          refine wpAnyH_done (by kernel_rfl) ?_ _
          clear hH1
          go_wp2
          go_roundw
          case rel => exact ⟨j + 1, _, _, by omega, by go_num, rfl, IA, ZC, HDI2, BB⟩
          case measure => simp [intOf]; omega
        · obtain rfl : d = dm := by omega
          go_wp2
          rw [← hW7]
          clear V_0 V_1 V_2 V_3 V_4 V_5 V_6 V_7 V_8 V_9 V_10 V_11 V_12 V_13 N_0 N_1 N_2 N_3 N_4 N_5 N_6 N_7 N_8 N_9 N_10 N_11 N_12 N_13 hW7 FN NN XZ XA
          have hGR : wr.heap.size ≠ G := by omega
          generalize wr.heap.size = R8 at *
          have hDr : Below W7.heap.size W7 W7.drew := (Below.refl _ _).drew
          replace IA := IA.below hDr
          replace ZC := ZC.below hDr
          replace VN := VN.below hDr
          replace BB := BB.trans (hDr.mono BB.size)
          clear hDr
          refine wp_region_held_drew (S := (fun w' => w'.cell? ⟨R8, 5, none⟩ = some (.int .i64 (lr : Int)) ∧ w'.cell? ⟨G, x, none⟩ = some (.int .i64 dx))) (by kernel_rfl) ?_ (fun hHeld => ?_)
          · exact ⟨VN.c5, (by have h9 := IA.cell x hxn; simp only [if_neg hxl, if_neg hxr, HAV.out] at h9; exact h9)⟩
          generalize W7.drew = W81 at *
          refine wpAnyH_take (i := 0) (v := ?_) (by simp only [List.getElem?_toArray, List.getElem?_cons_succ, List.getElem?_cons_zero]; rfl) (by kernel_rfl) (by kernel_rfl) (by kernel_rfl) (by exact fun _ _ _ h => h) (Or.inl ⟨by rfl, ?_⟩) (by assumption) ?_
          rotate_left
          · (intro w hSw; (try dsimp only at hSw); go_simp; (try with_reducible rfl))
          (try simp only [Act.put, List.setIfInBounds_toArray, List.set_cons_zero, List.set_cons_succ])
          refine wpAnyH_take (i := 1) (v := ?_) (by simp only [List.getElem?_toArray, List.getElem?_cons_succ, List.getElem?_cons_zero]; rfl) (by kernel_rfl) (by kernel_rfl) (by kernel_rfl) (by exact fun _ _ _ h => h) (Or.inl ⟨by rfl, ?_⟩) (by assumption) ?_
          rotate_left
          · (intro w hSw; (try dsimp only at hSw); go_simp; (try with_reducible rfl))
          (try simp only [Act.put, List.setIfInBounds_toArray, List.set_cons_zero, List.set_cons_succ])
          refine wpAnyH_take (i := 2) (v := ?_) (by simp only [List.getElem?_toArray, List.getElem?_cons_succ, List.getElem?_cons_zero]; rfl) (by kernel_rfl) (by kernel_rfl) (by kernel_rfl) (by exact fun _ _ _ h => h) (Or.inl ⟨by rfl, ?_⟩) (by assumption) ?_
          rotate_left
          · (intro w hSw; (try dsimp only at hSw); go_simp; (try with_reducible rfl))
          (try simp only [Act.put, List.setIfInBounds_toArray, List.set_cons_zero, List.set_cons_succ])
          refine wpAnyH_take (i := 3) (v := ?_) (by simp only [List.getElem?_toArray, List.getElem?_cons_succ, List.getElem?_cons_zero]; rfl) (by kernel_rfl) (by kernel_rfl) (by kernel_rfl) (by exact fun _ _ _ h => h) (Or.inl ⟨by rfl, ?_⟩) (by assumption) ?_
          rotate_left
          · (intro w hSw; (try dsimp only at hSw); go_simp; (try with_reducible rfl))
          (try simp only [Act.put, List.setIfInBounds_toArray, List.set_cons_zero, List.set_cons_succ])
          refine wpAnyH_take (i := 4) (v := ?_) (by simp only [List.getElem?_toArray, List.getElem?_cons_succ, List.getElem?_cons_zero]; rfl) (by kernel_rfl) (by kernel_rfl) (by kernel_rfl) (by exact fun _ _ _ h => h) (Or.inl ⟨by rfl, ?_⟩) (by assumption) ?_
          rotate_left
          · (intro w hSw; (try dsimp only at hSw); go_simp; (try with_reducible rfl))
          (try simp only [Act.put, List.setIfInBounds_toArray, List.set_cons_zero, List.set_cons_succ])
          refine wpAnyH_take (i := 5) (v := ?_) (by simp only [List.getElem?_toArray, List.getElem?_cons_succ, List.getElem?_cons_zero]; rfl) (by kernel_rfl) (by kernel_rfl) (by kernel_rfl) (by exact fun _ _ _ h => h) (Or.inl ⟨by rfl, ?_⟩) (by assumption) ?_
          rotate_left
          · (intro w hSw; (try dsimp only at hSw); go_simp; (try with_reducible rfl))
          (try simp only [Act.put, List.setIfInBounds_toArray, List.set_cons_zero, List.set_cons_succ])
          refine wpAnyH_take (i := 6) (v := ?_) (by simp only [List.getElem?_toArray, List.getElem?_cons_succ, List.getElem?_cons_zero]; rfl) (by kernel_rfl) (by kernel_rfl) (by kernel_rfl) (by exact fun _ _ _ h => h) (Or.inl ⟨by rfl, ?_⟩) (by assumption) ?_
          rotate_left
          · (intro w hSw; (try dsimp only at hSw); go_simp; (try with_reducible rfl))
          (try simp only [Act.put, List.setIfInBounds_toArray, List.set_cons_zero, List.set_cons_succ])
          refine wpAnyH_take (i := 7) (v := ?_) (by simp only [List.getElem?_toArray, List.getElem?_cons_succ, List.getElem?_cons_zero]; rfl) (by kernel_rfl) (by kernel_rfl) (by kernel_rfl) (by exact fun _ _ _ h => h) (Or.inl ⟨by rfl, ?_⟩) (by assumption) ?_
          rotate_left
          · (intro w hSw; (try dsimp only at hSw); go_simp; (try with_reducible rfl))
          (try simp only [Act.put, List.setIfInBounds_toArray, List.set_cons_zero, List.set_cons_succ])
          refine wpAnyH_take (i := 8) (v := ?_) (by simp only [List.getElem?_toArray, List.getElem?_cons_succ, List.getElem?_cons_zero]; rfl) (by kernel_rfl) (by kernel_rfl) (by kernel_rfl) (by exact fun _ _ _ h => h) (Or.inl ⟨by rfl, ?_⟩) (by assumption) ?_
          rotate_left
          · (intro w hSw; (try dsimp only at hSw); go_simp; (try with_reducible rfl))
          (try simp only [Act.put, List.setIfInBounds_toArray, List.set_cons_zero, List.set_cons_succ])
          refine wpAnyH_ready (rs := [9]) (by kernel_rfl) (by simp) ?_
          refine AllReadyH.cons (by simp only [List.getElem?_toArray, List.getElem?_cons_succ, List.getElem?_cons_zero]; rfl) (fun K hK => ?_) AllReadyH.nil
          have s0 := IA.cell lr k2
          have s1 := IA.soft lr k2
          have IA2 : IAr8 (W81.setCell ⟨G, lr, none⟩ (.int .i64 (dx + 1))) G n _ := IA.put k2 (dx + 1)
          have ZC2 : ZC8 (W81.setCell ⟨G, lr, none⟩ (.int .i64 (dx + 1))) gz zs := ZC.block (Below.heap_setCell _ _ _ _ hgz)
          have VN2 : V14 (W81.setCell ⟨G, lr, none⟩ (.int .i64 (dx + 1))) R8 _ _ _ _ _ _ _ _ _ _ _ _ _ _ := VN.block8 (Below.heap_setCell _ _ _ _ hGR)
          have BB2 : Below w.heap.size w (W81.setCell ⟨G, lr, none⟩ (.int .i64 (dx + 1))) := BB.setCell (p := ⟨G, lr, none⟩) hGB _
          go_simp
          clear s0 s1 IA ZC VN BB
          have IA := IA2
          have ZC := ZC2
          have VN := VN2
          have BB := BB2
          clear IA2 ZC2 VN2 BB2
          generalize W81.setCell ⟨G, lr, none⟩ (.int .i64 (dx + 1)) = WP1 at *
          refine hK.out _ _ ?_ (fun hH1 => ?_)
          · exact ⟨VN.c5, (by have h9 := IA.cell x hxn; simp only [if_neg hxl, if_neg hxr, HAV.out] at h9; exact h9)⟩
          clear hK K hHeld
          (try simp only [Act.put, List.setIfInBounds_toArray, List.set_cons_zero, List.set_cons_succ])
          refine wpAnyH_done (by kernel_rfl) ?_ _
          clear hH1
          go_wp2
          have hDr : Below WP1.heap.size WP1 WP1.drew := (Below.refl _ _).drew
          replace IA := IA.below hDr
          replace ZC := ZC.below hDr
          replace VN := VN.below hDr
          replace BB := BB.trans (hDr.mono BB.size)
          clear hDr
          refine wp_region_held_drew (S := (fun w' => w'.cell? ⟨R8, 6, none⟩ = some (.int .i64 (rr : Int)) ∧ w'.cell? ⟨G, x, none⟩ = some (.int .i64 dx))) (by kernel_rfl) ?_ (fun hHeld => ?_)
          · exact ⟨VN.c6, (by have h9 := IA.cell x hxn; simp only [if_neg hxl, if_neg hxr, HAV.out] at h9; exact h9)⟩
          generalize WP1.drew = W82 at *
          refine wpAnyH_take (i := 0) (v := ?_) (by simp only [List.getElem?_toArray, List.getElem?_cons_succ, List.getElem?_cons_zero]; rfl) (by kernel_rfl) (by kernel_rfl) (by kernel_rfl) (by exact fun _ _ _ h => h) (Or.inl ⟨by rfl, ?_⟩) (by assumption) ?_
          rotate_left
          · (intro w hSw; (try dsimp only at hSw); go_simp; (try with_reducible rfl))
          (try simp only [Act.put, List.setIfInBounds_toArray, List.set_cons_zero, List.set_cons_succ])
          refine wpAnyH_take (i := 1) (v := ?_) (by simp only [List.getElem?_toArray, List.getElem?_cons_succ, List.getElem?_cons_zero]; rfl) (by kernel_rfl) (by kernel_rfl) (by kernel_rfl) (by exact fun _ _ _ h => h) (Or.inl ⟨by rfl, ?_⟩) (by assumption) ?_
          rotate_left
          · (intro w hSw; (try dsimp only at hSw); go_simp; (try with_reducible rfl))
          (try simp only [Act.put, List.setIfInBounds_toArray, List.set_cons_zero, List.set_cons_succ])
          refine wpAnyH_take (i := 2) (v := ?_) (by simp only [List.getElem?_toArray, List.getElem?_cons_succ, List.getElem?_cons_zero]; rfl) (by kernel_rfl) (by kernel_rfl) (by kernel_rfl) (by exact fun _ _ _ h => h) (Or.inl ⟨by rfl, ?_⟩) (by assumption) ?_
          rotate_left
          · (intro w hSw; (try dsimp only at hSw); go_simp; (try with_reducible rfl))
          (try simp only [Act.put, List.setIfInBounds_toArray, List.set_cons_zero, List.set_cons_succ])
          refine wpAnyH_take (i := 3) (v := ?_) (by simp only [List.getElem?_toArray, List.getElem?_cons_succ, List.getElem?_cons_zero]; rfl) (by kernel_rfl) (by kernel_rfl) (by kernel_rfl) (by exact fun _ _ _ h => h) (Or.inl ⟨by rfl, ?_⟩) (by assumption) ?_
          rotate_left
          · (intro w hSw; (try dsimp only at hSw); go_simp; (try with_reducible rfl))
          (try simp only [Act.put, List.setIfInBounds_toArray, List.set_cons_zero, List.set_cons_succ])
          refine wpAnyH_take (i := 4) (v := ?_) (by simp only [List.getElem?_toArray, List.getElem?_cons_succ, List.getElem?_cons_zero]; rfl) (by kernel_rfl) (by kernel_rfl) (by kernel_rfl) (by exact fun _ _ _ h => h) (Or.inl ⟨by rfl, ?_⟩) (by assumption) ?_
          rotate_left
          · (intro w hSw; (try dsimp only at hSw); go_simp; (try with_reducible rfl))
          (try simp only [Act.put, List.setIfInBounds_toArray, List.set_cons_zero, List.set_cons_succ])
          refine wpAnyH_take (i := 5) (v := ?_) (by simp only [List.getElem?_toArray, List.getElem?_cons_succ, List.getElem?_cons_zero]; rfl) (by kernel_rfl) (by kernel_rfl) (by kernel_rfl) (by exact fun _ _ _ h => h) (Or.inl ⟨by rfl, ?_⟩) (by assumption) ?_
          rotate_left
          · (intro w hSw; (try dsimp only at hSw); go_simp; (try with_reducible rfl))
          (try simp only [Act.put, List.setIfInBounds_toArray, List.set_cons_zero, List.set_cons_succ])
          refine wpAnyH_take (i := 6) (v := ?_) (by simp only [List.getElem?_toArray, List.getElem?_cons_succ, List.getElem?_cons_zero]; rfl) (by kernel_rfl) (by kernel_rfl) (by kernel_rfl) (by exact fun _ _ _ h => h) (Or.inl ⟨by rfl, ?_⟩) (by assumption) ?_
          rotate_left
          · (intro w hSw; (try dsimp only at hSw); go_simp; (try with_reducible rfl))
          (try simp only [Act.put, List.setIfInBounds_toArray, List.set_cons_zero, List.set_cons_succ])
          refine wpAnyH_take (i := 7) (v := ?_) (by simp only [List.getElem?_toArray, List.getElem?_cons_succ, List.getElem?_cons_zero]; rfl) (by kernel_rfl) (by kernel_rfl) (by kernel_rfl) (by exact fun _ _ _ h => h) (Or.inl ⟨by rfl, ?_⟩) (by assumption) ?_
          rotate_left
          · (intro w hSw; (try dsimp only at hSw); go_simp; (try with_reducible rfl))
          (try simp only [Act.put, List.setIfInBounds_toArray, List.set_cons_zero, List.set_cons_succ])
          refine wpAnyH_take (i := 8) (v := ?_) (by simp only [List.getElem?_toArray, List.getElem?_cons_succ, List.getElem?_cons_zero]; rfl) (by kernel_rfl) (by kernel_rfl) (by kernel_rfl) (by exact fun _ _ _ h => h) (Or.inl ⟨by rfl, ?_⟩) (by assumption) ?_
          rotate_left
          · (intro w hSw; (try dsimp only at hSw); go_simp; (try with_reducible rfl))
          (try simp only [Act.put, List.setIfInBounds_toArray, List.set_cons_zero, List.set_cons_succ])
          refine wpAnyH_ready (rs := [9]) (by kernel_rfl) (by simp) ?_
          refine AllReadyH.cons (by simp only [List.getElem?_toArray, List.getElem?_cons_succ, List.getElem?_cons_zero]; rfl) (fun K hK => ?_) AllReadyH.nil
          have s0 := IA.cell rr k4
          have s1 := IA.soft rr k4
          have IA2 : IAr8 (W82.setCell ⟨G, rr, none⟩ (.int .i64 (dx + 1))) G n _ := IA.put k4 (dx + 1)
          have ZC2 : ZC8 (W82.setCell ⟨G, rr, none⟩ (.int .i64 (dx + 1))) gz zs := ZC.block (Below.heap_setCell _ _ _ _ hgz)
          have VN2 : V14 (W82.setCell ⟨G, rr, none⟩ (.int .i64 (dx + 1))) R8 _ _ _ _ _ _ _ _ _ _ _ _ _ _ := VN.block8 (Below.heap_setCell _ _ _ _ hGR)
          have BB2 : Below w.heap.size w (W82.setCell ⟨G, rr, none⟩ (.int .i64 (dx + 1))) := BB.setCell (p := ⟨G, rr, none⟩) hGB _
          go_simp
          clear s0 s1 IA ZC VN BB
          have IA := IA2
          have ZC := ZC2
          have VN := VN2
          have BB := BB2
          clear IA2 ZC2 VN2 BB2
          generalize W82.setCell ⟨G, rr, none⟩ (.int .i64 (dx + 1)) = WP2 at *
          refine hK.out _ _ ?_ (fun hH1 => ?_)
          · exact ⟨VN.c6, (by have h9 := IA.cell x hxn; simp only [if_neg hxl, if_neg hxr, HAV.out] at h9; exact h9)⟩
          clear hK K hHeld
          (try simp only [Act.put, List.setIfInBounds_toArray, List.set_cons_zero, List.set_cons_succ])
          refine wpAnyH_done (by kernel_rfl) ?_ _
          clear hH1
          go_wp2
          go_roundw
          case rel => exact ⟨j + 1, _, _, by omega, by go_num, rfl, IA, ZC, HDI2, BB⟩
          case measure => simp [intOf]; omega
      · have HD2 := HDI.out.leaf HX.out hlf
        rw [hlf] at NN
        obtain ⟨dm, hdm⟩ : ∃ z, max d (dpt t n x) = z := ⟨_, rfl⟩
        rw [hdm] at HD2
        have HDI2 : Hid (DepI t n zs (j + 1) dm av) := HD2
        clear hlf HDI HD2
        generalize dpt t n x = dx at *
        obtain ⟨N_0, N_1, N_2, N_3, N_4, N_5, N_6, N_7, N_8, N_9, N_10, N_11, N_12, N_13⟩ := id NN
        obtain ⟨W7, hW7, hS7, hL7, VN, FN⟩ := V14.lay wr 44 (.bool true) (.int .i64 (t x).feat) (.bool p1) (.slice a1 n1 c1) (.slice b1 m1 d1) (.int .i64 (t x).left) (.int .i64 (t x).right) (.bool (t x).miss) (.bool p2) (.slice a2 n2 c2) (.slice b2 m2 d2) (.bool p3) (.slice a3 n3 c3) (.slice b3 m3 d3)
        replace IA := IA.below hL7
        replace ZC := ZC.below hL7
        replace BB := BB.trans (hL7.mono BB.size)
        clear hL7
        obtain ⟨V_0, V_1, V_2, V_3, V_4, V_5, V_6, V_7, V_8, V_9, V_10, V_11, V_12, V_13⟩ := id VN
        rw [hW7] at V_0 V_1 V_2 V_3 V_4 V_5 V_6 V_7 V_8 V_9 V_10 V_11 V_12 V_13
        by_cases hmx : d < dx
        · obtain rfl : dx = dm := by omega
          go_wp2
          rw [← hW7]
          go_roundw
          case rel => exact ⟨j + 1, _, av, by omega, by go_num, rfl, IA, ZC, HDI2, BB⟩
          case measure => simp [intOf]; omega
        · obtain rfl : d = dm := by omega
          go_wp2
          rw [← hW7]
          go_roundw
          case rel => exact ⟨j + 1, _, av, by omega, by go_num, rfl, IA, ZC, HDI2, BB⟩
          case measure => simp [intOf]; omega
    · obtain rfl : j = n := by omega
      have f1 : ¬ (j : Int) < (j : Int) := by omega
      have hde : d = (dp t j 0 : Int) := HDI.out.done HMT.out HZE.out HZN.out
      subst hde
      clear HDI
      go_wp2
      go_ret
      exact ⟨rfl, BB⟩
end Go.Proofs.YtgddiimnpliolaaDoor
