/-
  Proves that Lines tells the lines of any text of up to 3000 bytes, or where and why it has none (the statement LexLines); no condition.
-/
import Derived.Test.YtbigickceflflaaRows
import Derived.Test.YtbigickceflflaaJ3f19cb3abf
import Derived.Test.YtbigickceflflaaJ714a192cbb
import Derived.WalkKit
import Derived.ProofKit
import Derived.OpenShut
import Derived.ShutString
import Derived.ChangeOld
import Derived.Below
namespace Go.Proofs.Ytbigickceflflaa.lexLines
open Go.ChangeShapes Go.WideShapes Go.ChangeAt Go.RowKit
open Go.ChangeMaps (open_string shut_string)
set_option linter.unusedVariables false
set_option linter.unusedSimpArgs false

set_option maxRecDepth 20000 in
set_option maxHeartbeats 4000000 in
theorem walk (s : ByteArray) (w : World) (hs : s.size ≤ maxLen) :
    Calls Try.prog 4 #[.string s] w fun e w' => e = .returned (.bool true) ∧ Below w.heap.size w w' := by
  have hc := cut_at s w hs
  have hl := cutS_le s
  go_enter Try.func4, Try.ntmps4
  go_wp2_with fail
  refine hc.mono ?_
  rintro e w0 ⟨rfl, hw⟩
  replace hw := hw.symm
  subst hw
  clear hc hs
  generalize cutS s = t at *
  have c1 := Lines_at t w (by omega)
  have c2 : Hid (∀ w1, Calls Try.prog 13 #[.string t] w1 fun e w' => RowsOut w1.heap.size e w' (lscan t 0 0 []) ∧ Below w1.heap.size w1 w') := fun w1 => lines_at t w1 (by omega)
  generalize lscan t 0 0 [] = R at *
  cases R with
  | err i c =>
    go_wp2_with fail
    refine c1.mono ?_
    rintro e w1 ⟨he, hb1⟩
    have he' : e = .returned (.tuple #[.slice none 0 0, .int .i64 (i : Int), .int .i64 (c : Int)]) := he
    subst he'
    clear c1 he
    go_wp2_with fail
    refine (c2.out _).mono ?_
    rintro e w2 ⟨he, hb2⟩
    have he' : e = .returned (.tuple #[.slice none 0 0, .int .i64 (i : Int), .int .i64 (c : Int)]) := he
    subst he'
    have B2 : Below w.heap.size w w2 := hb1.trans (hb2.mono hb1.size)
    clear hb1 hb2 c2 he
    go_wp2
    refine wp_loop_rounds 1 ?_
    rw [rounds_succ]
    go_wp2_with fail
    refine (awake_at _).mono ?_
    rintro e w4 ⟨rfl, hb4⟩
    go_wp2
    go_ret
    exact ⟨rfl, B2.trans (hb4.mono B2.size)⟩
  | ok L =>
    go_wp2_with fail
    refine c1.mono ?_
    rintro e w1 ⟨⟨v, rfl, ho, hL, hA⟩, hb1⟩
    have HA : Hid (∀ p ∈ L, p.1.length ≤ 4096) := hA
    clear c1 hA
    go_wp2_with fail
    refine (c2.out _).mono ?_
    rintro e w2 ⟨⟨v2, rfl, ho2, _, _⟩, hb2⟩
    have B2 : Below w.heap.size w w2 := hb1.trans (hb2.mono hb1.size)
    have ho1 := ho.later hb2
    clear hb1 hb2 ho c2
    obtain ⟨us, o1, t1⟩ := ho1
    obtain ⟨us2, o2, t2⟩ := ho2
    rw [List.length_map] at o1 o2
    obtain ⟨ao, ca, rfl, o1, _⟩ := owns_slice o1
    obtain ⟨bo, cb, rfl, o2, _⟩ := owns_slice o2
    have HT1 : Hid (∀ (i : Nat) t, (L.map (·.1))[i]? = some t → ∃ u, us[i]? = some u ∧ TOwn w.heap.size w2 u t) := t1
    have HT2 : Hid (∀ (i : Nat) t, (L.map (·.1))[i]? = some t → ∃ u, us2[i]? = some u ∧ TOwn w1.heap.size w2 u t) := t2
    have HO1 : Hid (w2.ownsRow w.heap.size 23 1 (.slice ao L.length ca) L.length us) := o1
    have HO2 : Hid (w2.ownsRow w1.heap.size 23 1 (.slice bo L.length cb) L.length us2) := o2
    clear t1 t2 o1 o2
    go_wp2
    go_loopw [9] (fun x wr => ∃ k : Nat, k ≤ L.length ∧ x = .int .i64 (k : Int) ∧ ∃ m, wr = w2.drewN m) (fun x _ => L.length - (intOf x).toNat)
    case atStart => exact ⟨0, by omega, rfl, 0, rfl⟩
    case round =>
      obtain ⟨k, hk, rfl, m, hwr⟩ := hrel
      by_cases hlt : k < L.length
      · have hlti : (k : Int) < (L.length : Int) := by omega
        have hg : (L.map (·.1))[k]? = some L[k].1 := by rw [List.getElem?_map, List.getElem?_eq_getElem hlt]; rfl
        have hlen := HA.out L[k] (List.getElem_mem hlt)
        obtain ⟨u1, x1, y1⟩ := HT1.out k _ hg
        obtain ⟨u2, x2, y2⟩ := HT2.out k _ hg
        generalize L[k] = P at *
        rcases HO1.out.2 with ⟨e0, e1⟩ | ⟨g, cap, cur, e1, r1⟩
        · omega
        rcases HO2.out.2 with ⟨e0, e2⟩ | ⟨g', cap', cur', e2, r2⟩
        · omega
        cases e1
        cases e2
        have BW : Below w2.heap.size w2 wr := by rw [hwr]; exact below_drewN (Below.refl _ _) _
        have z1 := owns_cell (owns_later HO1.out BW) x1
        have z2 := owns_cell (owns_later HO2.out BW) x2
        obtain ⟨so, sc, rfl, q1⟩ := y1.open rfl
        obtain ⟨so', sc', rfl, q2⟩ := y2.open rfl
        have HS : Hid (∀ n, Calls Try.prog 10 #[.slice so P.1.length sc, .slice so' P.1.length sc'] (wr.drewN n) fun e w' => e = .returned (.bool true) ∧ ∃ m, w' = (wr.drewN n).drewN m) := fun n => same_q _ _ _ _ _ _ ((y1.later BW).later (below_drewN (Below.refl _ _) n)) ((y2.later BW).later (below_drewN (Below.refl _ _) n)) (by omega)
        have HWR : Hid (wr = w2.drewN m) := hwr
        clear hwr BW hg x1 x2 y1 y2 q1 q2 r1 r2 HO1 HO2 HT1 HT2 hlen
        have ha0 : ((0 : Int) ≤ (k : Int)) := by omega
        go_wp2
        go_quiet ((go_at_call 10; exact Calls.quiet_of (HS.out _)))
        go_wp2
        go_roundw
        case rel => exact ⟨k + 1, by omega, by go_num, m + nq, by rw [HWR.out, World.drewN_drewN]⟩
        case measure => simp [intOf]; omega
      · have hlti : ¬ (k : Int) < (L.length : Int) := by omega
        have hltb : decide ((k : Int) < (L.length : Int)) = false := by simp; omega
        have B3 : Below w.heap.size w wr := by rw [hwr]; exact below_drewN B2 _
        clear hwr
        go_wp2_with fail
        refine (awake_at _).mono ?_
        rintro e w4 ⟨rfl, hb4⟩
        go_wp2
        go_ret
        exact ⟨rfl, B3.trans (hb4.mono B3.size)⟩

theorem own : ownKnob Try.prog.godebug = none := by kernel_rfl

set_option maxRecDepth 100000 in
theorem lifted (os : Os) (started : os.Started) (H : Type) (enc : TypeId × Value → H) :
    ReturnsInHanded {} Try.checked os 4 .any (Rows.lexLinesSpec.pre6 enc Try.prog Try.f4 Rows.lexLinesRow.domain false) (Rows.lexLinesSpec.post enc Try.prog Try.f4 false true false false) := by
  refine returnsInHanded_of_change (C := Try.checked) own started (by kernel_rfl) Try.func4
    (ChangeSpec.witness6 (enc := enc) (C := Try.checked) false ⟨#[], #[.string ByteArray.empty], []⟩ 8 (by kernel_rfl) (by kernel_rfl) (by kernel_rfl) (by kernel_rfl)) ?_
  intro W base args ds gs before hval0 hW hcnd _
  have hval : ∀ (j : Nat) t v, Try.f4.params[j]? = some t → args[j]? = some v → Value.okWide Try.prog W .any base t v := hval0
  have hW' := hW
  obtain ⟨p, q, hA0, hV, rfl, hfz, hnd⟩ := hW
  have hA : DataW.TrodAll enc Try.prog W 0 (fun _ => true) true Try.f4.params.toList args.toList ds p := hA0
  rw [Try.params4] at hA hval
  obtain ⟨v0, vs0, d0, ds0, p0, q0, hargs, rfl, rfl, h0, r0⟩ := trodAll_cons hA
  obtain ⟨rfl, rfl, rfl⟩ := trodAll_nil r0
  obtain rfl : args = #[v0] := by cases args; simp_all
  obtain ⟨rfl, rfl⟩ := trodVars_none hV
  obtain ⟨s0, rfl, rfl, rfl, w0⟩ := open_string Try.underlying9 (hval 0 9 v0 rfl rfl) h0
  clear hA0 hval0
  refine (walk s0 W w0).mono fun e W' ⟨he, bel⟩ => ?_
  subst he
  exact ⟨_, rfl, _, _, _, [], _, [], hW', trodAll_mk1 (shut_bool Try.underlying4 _), (trodAll_cons_mk (shut_string Try.underlying9 w0) trodAll_mk0), rfl, bel.frame _, fun h => by cases h⟩

theorem over : Rows.lexLinesRow.holds Try.pinned (OpenSpec.ofChange Rows.lexLinesSpec) :=
  OpenClaim.holds_of_wide 4 Try.f4 rfl rfl rfl rfl rfl rfl rfl ⟨rfl, rfl, rfl, rfl, rfl⟩ rfl rfl rfl rfl rfl (by kernel_rfl) Try.func4 (by kernel_rfl)
    (of_decide_eq_true (by kernel_rfl)) (by unfold Func.isWrapper; first | (rw [if_pos (by decide +kernel)]; kernel_rfl) | (rw [if_neg (by decide +kernel)]; exact ⟨rfl, rfl⟩))
    (fun os started H enc _ => lifted os started H enc)

end Go.Proofs.Ytbigickceflflaa.lexLines
namespace Go.Proofs.Ytbigickceflflaa
/-- The statement. -/
theorem lexLines_holds : Rows.LexLinesSaid := lexLines.over
end Go.Proofs.Ytbigickceflflaa
