/-
  Proves that a text that is too long, or has too many lines or words, has none, and that one of just as many has (the statement LexLong); no condition.
-/
import Derived.Test.YtbigickceflflaaRows
import Derived.Test.YtbigickceflflaaJ3b022dcca5
import Derived.WalkKit
import Derived.ProofKit
import Derived.OpenShut
import Derived.ShutString
import Derived.ChangeOld
import Derived.Below
namespace Go.Proofs.Ytbigickceflflaa.lexLong
open Go.ChangeShapes Go.WideShapes Go.ChangeAt Go.RowKit
open Go.ChangeMaps (open_string shut_string)
set_option linter.unusedVariables false
set_option linter.unusedSimpArgs false

set_option maxRecDepth 100000 in
set_option maxHeartbeats 8000000 in
theorem walk (a : Int) (w : World) (ha : (Lit.int .i64 a).wf = true) :
    Calls Try.prog 6 #[.int .i64 a] w fun e w' => e = .returned (.bool true) ∧ Below w.heap.size w w' := by
  obtain ⟨i0, hi, hz0, hz1, hz2⟩ := info_parts info_u8
  have hab := bounds_i64 ha
  clear ha
  by_cases hneg : a < 0
  · go_enter Try.func6, Try.ntmps6
    go_wp2_with fail
    refine (awake_at _).mono ?_
    rintro e w7 ⟨rfl, hb7⟩
    go_wp2
    go_ret
    exact ⟨rfl, hb7⟩
  by_cases hpos : 1 < a
  · go_enter Try.func6, Try.ntmps6
    go_wp2_with fail
    refine (awake_at _).mono ?_
    rintro e w7 ⟨rfl, hb7⟩
    go_wp2
    go_ret
    exact ⟨rfl, hb7⟩
  obtain ⟨m, rfl⟩ : ∃ m : Nat, a = (m : Int) := ⟨a.toNat, by omega⟩
  have hm1 : m ≤ 1 := by omega
  have j1 : ¬ (m : Int) < 0 := by omega
  have j2 : ¬ (1 : Int) < (m : Int) := by omega
  obtain ⟨N, hN⟩ : ∃ N, N = 1048576 + m := ⟨_, rfl⟩
  obtain ⟨N2, hN2⟩ : ∃ N, N = 16383 + m := ⟨_, rfl⟩
  obtain ⟨N3, hN3⟩ : ∃ N, N = 8192 + 2 * m := ⟨_, rfl⟩
  have HN : Hid (N = 1048576 + m ∧ N2 = 16383 + m ∧ N3 = 8192 + 2 * m) := ⟨hN, hN2, hN3⟩
  have hNi : (1048576 : Int) + (m : Int) = (N : Int) := by omega
  have hNi2 : (16383 : Int) + (m : Int) = (N2 : Int) := by omega
  have hNi3 : (8192 : Int) + 2 * (m : Int) = (N3 : Int) := by omega
  have hNb : 1048576 ≤ N ∧ N ≤ 1048577 := by omega
  have hNb2 : 16383 ≤ N2 ∧ N2 ≤ 16384 := by omega
  have hNb3 : 8192 ≤ N3 ∧ N3 ≤ 8194 := by omega
  have hNm : N ≤ maxLen := by unfold maxLen; omega
  have hNa : i0.bytes * N ≤ 281474976710656 := by rw [hz2]; omega
  have hNm2 : N2 ≤ maxLen := by unfold maxLen; omega
  have hNa2 : i0.bytes * N2 ≤ 281474976710656 := by rw [hz2]; omega
  have hNm3 : N3 ≤ maxLen := by unfold maxLen; omega
  have hNa3 : i0.bytes * N3 ≤ 281474976710656 := by rw [hz2]; omega
  clear hneg hpos hN hN2 hN3 hab
  go_enter Try.func6, Try.ntmps6
  go_wp2_with (at_make; refine wpList_make_full _ rfl _ _ 34 rfl _ 5 i0 (.int .u8 0) 1 Try.underlying34 hi hz0 hz1 _ _ _ _ N rfl rfl (by first | exact hNi | rfl) (by first | exact hNi | rfl) hNa hNm (Nat.le_refl _) ?_; intro w1 hown hgrow)
  clear hNi hNa hNm
  have hb1 := below_grown hgrow
  obtain ⟨hc1, hs1⟩ := mine_made (k := .u8) (w := w) hown (fun _ => 0) (fun i hi => made_zero .u8 N i hi)
  clear hown hgrow
  have sz1 := hb1.size
  go_loopw [4] (fun vi wr => ∃ (i : Nat) (h : Nat → Int), i ≤ N ∧ vi = .int .i64 (i : Int) ∧ Cells wr .u8 w.heap.size 0 N h ∧ (∀ j, j < i → h j = 97) ∧ Soft wr w.heap.size 0 N ∧ Below w.heap.size w wr) (fun vi _ => N - (intOf vi).toNat)
  case atStart => exact ⟨0, fun _ => 0, Nat.zero_le _, rfl, hc1, fun j hj => by omega, hs1, hb1⟩
  case round =>
    clear hc1 hs1 hb1
    obtain ⟨i, h, hiN, rfl, hcr, h48, hsr, hbel⟩ := hrel
    have H48 : Hid (∀ j, j < i → h j = 97) := h48
    clear h48
    by_cases hlt : i < N
    · have hcell : wr.cell? ⟨w.heap.size, i, none⟩ = some (.int .u8 (h i)) := by have := hcr i hlt; rw [Nat.zero_add] at this; exact this
      have hfr : wr.frozen? ⟨w.heap.size, i, none⟩ = false := by have := hsr i hlt; rw [Nat.zero_add] at this; exact this
      go_wp2
      go_roundw
      case rel =>
        refine ⟨i + 1, put h i 97, by omega, by go_num, ?_, ?_, hsr.set _ _, hbel.setCell (by simp) _⟩
        · have := hcr.set i hlt 97; rw [Nat.zero_add] at this; exact this
        · intro j hj
          by_cases e : j = i
          · rw [e, put_same]
          · rw [put_other _ _ _ _ e]; exact H48.out j (by omega)
      case measure => simp [intOf]; omega
    · obtain rfl : i = N := by omega
      have hconv := run_convert_bytes_arg (P := Try.prog) wr 34 5 Try.underlying34 Try.underlying5 w.heap.size 0 i i (nums (fun _ => 97) i) (nums_length _ _)
        (fun j hj => by rw [nums_at _ _ _ hj, hcr j hj, H48.out j hj]; rfl) 9 Try.underlying9
      have hS : strOfNums (nums (fun _ => 97) i) = fillS (fun _ => 97) i := rfl
      rw [hS] at hconv
      clear hS hcr hsr H48
      obtain ⟨wA, rfl⟩ : ∃ wA, wA = wr := ⟨_, rfl⟩
      go_wp2_with fail
      refine (callA m i _ hm1 HN.out.1).mono ?_
      rintro e wB ⟨ao, c, k1, e1, rfl, R1, hbB⟩
      have BB : Below w.heap.size w wB := hbel.trans (hbB.mono hbel.size)
      have HR1 : Hid ((m = 1 ∧ k1 = 0 ∧ e1 = 6) ∨ (m = 0 ∧ k1 = 1 ∧ e1 = 0)) := R1
      generalize fillS (fun _ => 97) i = S1 at *
      clear R1 hbel hbB hconv hlt sz1 hiN
      go_wp2_with (at_make; refine wpList_make_full _ rfl _ _ 34 rfl _ 5 i0 (.int .u8 0) 1 Try.underlying34 hi hz0 hz1 _ _ _ _ N2 rfl rfl (by first | exact hNi2 | rfl) (by first | exact hNi2 | rfl) hNa2 hNm2 (Nat.le_refl _) ?_; intro w1 hown hgrow)
      clear hNi2 hNa2 hNm2
      have hb1 := below_grown hgrow
      obtain ⟨hc1, hs1⟩ := mine_made (k := .u8) (w := wB) hown (fun _ => 0) (fun i hi => made_zero .u8 N2 i hi)
      clear hown hgrow
      have sz1 := hb1.size
      go_loopw [9] (fun vi wr => ∃ (j : Nat) (h : Nat → Int), j ≤ N2 ∧ vi = .int .i64 (j : Int) ∧ Cells wr .u8 wB.heap.size 0 N2 h ∧ (∀ x, x < j → h x = 10) ∧ Soft wr wB.heap.size 0 N2 ∧ Below wB.heap.size wB wr) (fun vi _ => N2 - (intOf vi).toNat)
      case atStart => exact ⟨0, fun _ => 0, Nat.zero_le _, rfl, hc1, fun j hj => by omega, hs1, hb1⟩
      case round =>
        clear hc1 hs1 hb1
        obtain ⟨j, h2, hjN, rfl, hcr, h48, hsr, hbel⟩ := hrel
        have H48 : Hid (∀ x, x < j → h2 x = 10) := h48
        clear h48
        by_cases hlt : j < N2
        · have hcell : wr.cell? ⟨wB.heap.size, j, none⟩ = some (.int .u8 (h2 j)) := by have := hcr j hlt; rw [Nat.zero_add] at this; exact this
          have hfr : wr.frozen? ⟨wB.heap.size, j, none⟩ = false := by have := hsr j hlt; rw [Nat.zero_add] at this; exact this
          go_wp2
          go_roundw
          case rel =>
            refine ⟨j + 1, put h2 j 10, by omega, by go_num, ?_, ?_, hsr.set _ _, hbel.setCell (by simp) _⟩
            · have := hcr.set j hlt 10; rw [Nat.zero_add] at this; exact this
            · intro x hx
              by_cases e : x = j
              · rw [e, put_same]
              · rw [put_other _ _ _ _ e]; exact H48.out x (by omega)
          case measure => simp [intOf]; omega
        · obtain rfl : j = N2 := by omega
          have hconv := run_convert_bytes_arg (P := Try.prog) wr 34 5 Try.underlying34 Try.underlying5 wB.heap.size 0 j j (nums (fun _ => 10) j) (nums_length _ _)
            (fun x hx => by rw [nums_at _ _ _ hx, hcr x hx, H48.out x hx]; rfl) 9 Try.underlying9
          have hS : strOfNums (nums (fun _ => 10) j) = fillS (fun _ => 10) j := rfl
          rw [hS] at hconv
          have hbelw : Below w.heap.size w wr := BB.trans (hbel.mono BB.size)
          clear hS hcr hsr H48
          obtain ⟨wC, rfl⟩ : ∃ wC, wC = wr := ⟨_, rfl⟩
          go_wp2_with fail
          refine (callB m j _ hm1 HN.out.2.1).mono ?_
          rintro e wD ⟨v2, b2, e2, rfl, R2, hbD⟩
          have BD : Below w.heap.size w wD := hbelw.trans (hbD.mono hbelw.size)
          have HR2 : Hid ((m = 1 ∧ b2 = 16384 ∧ e2 = 16) ∨ (m = 0 ∧ e2 = 0)) := R2
          generalize fillS (fun _ => 10) j = S2 at *
          clear R2 hbel hbD hconv hlt sz1 hjN hbelw BB
          go_wp2_with (at_make; refine wpList_make_full _ rfl _ _ 34 rfl _ 5 i0 (.int .u8 0) 1 Try.underlying34 hi hz0 hz1 _ _ _ _ N3 rfl rfl (by first | exact hNi3 | rfl) (by first | exact hNi3 | rfl) hNa3 hNm3 (Nat.le_refl _) ?_; intro w1 hown hgrow)
          clear hNi3 hNa3 hNm3
          have hb1 := below_grown hgrow
          obtain ⟨hc1, hs1⟩ := mine_made (k := .u8) (w := wD) hown (fun _ => 0) (fun i hi => made_zero .u8 N3 i hi)
          clear hown hgrow
          have sz1 := hb1.size
          go_loopw [14] (fun vi wr => ∃ (j : Nat) (h : Nat → Int), j ≤ N3 ∧ vi = .int .i64 (j : Int) ∧ Cells wr .u8 wD.heap.size 0 N3 h ∧ (∀ x, x < j → h x = (turn x : Int)) ∧ Soft wr wD.heap.size 0 N3 ∧ Below wD.heap.size wD wr) (fun vi _ => N3 - (intOf vi).toNat)
          case atStart => exact ⟨0, fun _ => 0, Nat.zero_le _, rfl, hc1, fun j hj => by omega, hs1, hb1⟩
          case round =>
            clear hc1 hs1 hb1
            obtain ⟨q, h3, hqN, rfl, hcr, h48, hsr, hbel⟩ := hrel
            have H48 : Hid (∀ x, x < q → h3 x = (turn x : Int)) := h48
            clear h48
            by_cases hlt : q < N3
            · have hcell : wr.cell? ⟨wD.heap.size, q, none⟩ = some (.int .u8 (h3 q)) := by have := hcr q hlt; rw [Nat.zero_add] at this; exact this
              have hfr : wr.frozen? ⟨wD.heap.size, q, none⟩ = false := by have := hsr q hlt; rw [Nat.zero_add] at this; exact this
              have c1 := hcr.set q hlt 32
              have c2 := c1.set q hlt 97
              rw [Nat.zero_add] at c1 c2
              by_cases hev : q % 2 = 0
              · have hevi : (q : Int) % 2 = 0 := by omega
                have ht : Hid (turn q = 97) := if_pos hev
                clear hev
                go_wp2
                go_roundw
                case rel =>
                  refine ⟨q + 1, put (put h3 q 32) q 97, by omega, by go_num, c2, ?_, (hsr.set _ _).set _ _, (hbel.setCell (by simp) _).setCell (by simp) _⟩
                  intro x hx
                  by_cases e : x = q
                  · rw [e, put_same, ht.out]; rfl
                  · rw [put_other _ _ _ _ e, put_other _ _ _ _ e]; exact H48.out x (by omega)
                case measure => simp [intOf]; omega
              · have hevi : (((q : Int) % 2) == 0) = false := by simp; omega
                have ht : Hid (turn q = 32) := if_neg hev
                clear hev
                go_wp2
                go_roundw
                case rel =>
                  refine ⟨q + 1, put h3 q 32, by omega, by go_num, c1, ?_, hsr.set _ _, hbel.setCell (by simp) _⟩
                  intro x hx
                  by_cases e : x = q
                  · rw [e, put_same, ht.out]; rfl
                  · rw [put_other _ _ _ _ e]; exact H48.out x (by omega)
                case measure => simp [intOf]; omega
            · obtain rfl : q = N3 := by omega
              have hconv := run_convert_bytes_arg (P := Try.prog) wr 34 5 Try.underlying34 Try.underlying5 wD.heap.size 0 q q (nums turn q) (nums_length _ _)
                (fun x hx => by rw [nums_at _ _ _ hx, hcr x hx, H48.out x hx]) 9 Try.underlying9
              have hS : strOfNums (nums turn q) = fillS turn q := rfl
              rw [hS] at hconv
              have hbelw : Below w.heap.size w wr := BD.trans (hbel.mono BD.size)
              clear hS hcr hsr H48
              go_wp2_with fail
              refine (callC m q _ hm1 HN.out.2.2).mono ?_
              rintro e wF ⟨ao3, c3, k3, d3, e3, rfl, R3, hbF⟩
              have BF : Below w.heap.size w wF := hbelw.trans (hbF.mono hbelw.size)
              generalize fillS turn q = S3 at *
              clear hbel hbF hconv hlt sz1 hqN hbelw BD
              have R1 := HR1.out
              have R2 := HR2.out
              clear HR1 HR2 HN
              by_cases hm : m = 1
              · obtain ⟨rfl, rfl, rfl⟩ : k1 = 0 ∧ e1 = 6 ∧ b2 = 16384 := by omega
                obtain ⟨rfl, rfl, rfl, rfl⟩ : e2 = 16 ∧ k3 = 0 ∧ d3 = 8192 ∧ e3 = 16 := by omega
                subst hm
                clear R1 R2 R3
                go_wp2_with fail
                refine (awake_at _).mono ?_
                rintro e w7 ⟨rfl, hb7⟩
                go_wp2
                go_ret
                exact ⟨rfl, BF.trans (hb7.mono BF.size)⟩
              · obtain ⟨rfl, rfl, rfl⟩ : k1 = 1 ∧ e1 = 0 ∧ e2 = 0 := by omega
                obtain ⟨rfl, rfl, rfl⟩ : k3 = 4096 ∧ e3 = 0 ∧ m = 0 := by omega
                clear R1 R2 R3 hm
                go_wp2_with fail
                refine (awake_at _).mono ?_
                rintro e w7 ⟨rfl, hb7⟩
                go_wp2
                go_ret
                exact ⟨rfl, BF.trans (hb7.mono BF.size)⟩

theorem own : ownKnob Try.prog.godebug = none := by kernel_rfl

set_option maxRecDepth 100000 in
theorem lifted (os : Os) (started : os.Started) (H : Type) (enc : TypeId × Value → H) :
    ReturnsInHanded {} Try.checked os 6 .any (Rows.lexLongSpec.pre6 enc Try.prog Try.f6 Rows.lexLongRow.domain false) (Rows.lexLongSpec.post enc Try.prog Try.f6 false true false false) := by
  refine returnsInHanded_of_change (C := Try.checked) own started (by kernel_rfl) Try.func6
    (ChangeSpec.witness6 (enc := enc) (C := Try.checked) false ⟨#[], #[.int .i64 0], []⟩ 8 (by kernel_rfl) (by kernel_rfl) (by kernel_rfl) (by kernel_rfl)) ?_
  intro W base args ds gs before hval0 hW hcnd _
  have hval : ∀ (j : Nat) t v, Try.f6.params[j]? = some t → args[j]? = some v → Value.okWide Try.prog W .any base t v := hval0
  have hW' := hW
  obtain ⟨p, q, hA0, hV, rfl, hfz, hnd⟩ := hW
  have hA : DataW.TrodAll enc Try.prog W 0 (fun _ => true) true Try.f6.params.toList args.toList ds p := hA0
  rw [Try.params6] at hA hval
  obtain ⟨v0, vs0, d0, ds0, p0, q0, hargs, rfl, rfl, h0, r0⟩ := trodAll_cons hA
  obtain ⟨rfl, rfl, rfl⟩ := trodAll_nil r0
  obtain rfl : args = #[v0] := by cases args; simp_all
  obtain ⟨rfl, rfl⟩ := trodVars_none hV
  obtain ⟨a0, rfl, rfl, rfl, w0⟩ := open_int Try.underlying3 (hval 0 3 v0 rfl rfl) h0
  clear hA0 hval0
  refine (walk a0 W w0).mono fun e W' ⟨he, bel⟩ => ?_
  subst he
  exact ⟨_, rfl, _, _, _, [], _, [], hW', trodAll_mk1 (shut_bool Try.underlying4 _), (trodAll_cons_mk (shut_int Try.underlying3 w0) trodAll_mk0), rfl, bel.frame _, fun h => by cases h⟩

theorem over : Rows.lexLongRow.holds Try.pinned (OpenSpec.ofChange Rows.lexLongSpec) :=
  OpenClaim.holds_of_wide 6 Try.f6 rfl rfl rfl rfl rfl rfl rfl ⟨rfl, rfl, rfl, rfl, rfl⟩ rfl rfl rfl rfl rfl (by kernel_rfl) Try.func6 (by kernel_rfl)
    (of_decide_eq_true (by kernel_rfl)) (by unfold Func.isWrapper; first | (rw [if_pos (by decide +kernel)]; kernel_rfl) | (rw [if_neg (by decide +kernel)]; exact ⟨rfl, rfl⟩))
    (fun os started H enc _ => lifted os started H enc)

end Go.Proofs.Ytbigickceflflaa.lexLong
namespace Go.Proofs.Ytbigickceflflaa
/-- The statement. -/
theorem lexLong_holds : Rows.LexLongSaid := lexLong.over
end Go.Proofs.Ytbigickceflflaa
