/-
  Texts of mine, joined: what lies beneath the statement.
-/
import Derived.Test.YtnnnkajomljdgaaDoorJb2b4823436
import Derived.Test.YtnnnkajomljdgaaDoorJf988ffae38
import Derived.Test.YtnnnkajomljdgaaDoorJd4b9aab484
import Derived.Laws.CopyOwn
namespace Go.Proofs.YtnnnkajomljdgaaDoor
open Go.RowKit
set_option linter.unusedVariables false
set_option linter.unusedSimpArgs false

theorem enters_own8 {P : Program} {f : FuncId} {fn : Func} {c : Code} (hf : P.funcs[f]? = some fn) (hname : (fn.name == "runtime.NumGoroutine") = false) (hb : fn.body = some c) (args : Array Value) (w : World) : Sem.run P (callFunc f args) w = .ok (.enter f args) w := by
  have h1 : fn.name ≠ "runtime.NumGoroutine" := by simpa using hname
  simp [callFunc, hf, h1, hb, mark]
def Kf : Nat → FuncId
  | 0 => 83
  | 1 => 84
  | 2 => 85
  | _ => 86
theorem Kf_enters (r : Nat) (args : Array Value) (w : World) : Sem.run Tryd.prog (callFunc (Kf r) args) w = .ok (.enter (Kf r) args) w := by
  match r with
  | 0 => exact enters_own8 Tryd.func83 (by kernel_rfl) rfl args w
  | 1 => exact enters_own8 Tryd.func84 (by kernel_rfl) rfl args w
  | 2 => exact enters_own8 Tryd.func85 (by kernel_rfl) rfl args w
  | n + 3 => exact enters_own8 Tryd.func86 (by kernel_rfl) rfl args w
theorem rule_any (r : Nat) (hr : r < 4) (v : Value) (n : Nat) (t : Nat → Nd) (F : Int) (L : Nat) (w : World) (hv : TRow w v n t L) (ht : Tab w) (hn0 : 0 < n) (hn : n ≤ 255) (hN : 0 < r → Named t n) (hL : 1 ≤ L) (hLM : L ≤ 30000) :
    Calls Tryd.prog (Kf r) #[v, .int .i64 F] w fun e w' => e = .returned (rlV F t n r) ∧ Below w.heap.size w w' := by
  rcases (by omega : r = 0 ∨ r = 1 ∨ r = 2 ∨ r = 3) with rfl | rfl | rfl | rfl
  · exact namesPlaces_at v n t F L w hv
  · exact isTree_at v n t F L w hv (hN (by omega)) hn0 hn
  · exact hasCovers_at v n t F L w hv hL (by omega)
  · exact addsUp_at v n t F L w hv ht (hN (by omega)) hL hLM
theorem rl_err {F : Int} {t : Nat → Nd} {n r : Nat} {e : Int} {nd : Nat} (h : rl F t n r = some (e, nd)) : e = 8 ∨ e = 11 ∨ e = 12 ∨ e = 13 := by
  match r with
  | 0 =>
    simp only [rl, Option.map_eq_some_iff] at h
    obtain ⟨i, _, e⟩ := h
    cases e; omega
  | 1 =>
    simp only [rl, Option.map_eq_some_iff] at h
    obtain ⟨i, _, e⟩ := h
    cases e; omega
  | 2 =>
    simp only [rl, Option.map_eq_some_iff] at h
    obtain ⟨i, _, e⟩ := h
    cases e; omega
  | r + 3 =>
    simp only [rl, Option.map_eq_some_iff] at h
    obtain ⟨i, _, e⟩ := h
    cases e; omega
/-- What Check answers. -/
def ChkOut (F : Int) (k : Nat) (N : Nat → Nat) (T : Nat → Nat → Nd) (v : Value) : Prop :=
  (mfit F k N T = false ∧ v = .agg #[.int .i64 1, .int .i64 0, .int .i64 0, .int .i64 0]) ∨ (mfit F k N T = true ∧ ∃ x, IsFirst F k N T x ∧ v = fltV x)
theorem ChkOut.one {F : Int} {k : Nat} {N : Nat → Nat} {T : Nat → Nat → Nd} {v v' : Value} (h : ChkOut F k N T v) (h' : ChkOut F k N T v') : v = v' := by
  rcases h with ⟨h1, rfl⟩ | ⟨h1, x, h2, rfl⟩ <;> rcases h' with ⟨h1', rfl⟩ | ⟨h1', x', h2', rfl⟩
  · rfl
  · rw [h1] at h1'; cases h1'
  · rw [h1] at h1'; cases h1'
  · rw [h2.one h2']

set_option maxRecDepth 100000 in
set_option maxHeartbeats 4000000 in
theorem rules_at (w : World) : Calls Tryd.prog 71 #[] w fun e w' => ∃ g, e = .returned (.slice (some ⟨g, 0, none⟩) 4 4) ∧ (∀ r, r < 4 → w'.cell? ⟨g, r, none⟩ = some (.func (.func (Kf r)) #[] #[])) ∧ Below w.heap.size w w' := by
  have hb := heap_alloc_new w (.cells #[.func (.func (Kf 0)) #[] #[], .func (.func (Kf 1)) #[] #[], .func (.func (Kf 2)) #[] #[], .func (.func (Kf 3)) #[] #[]] 107)
  have hB : Below w.heap.size w (w.alloc (.cells #[.func (.func (Kf 0)) #[] #[], .func (.func (Kf 1)) #[] #[], .func (.func (Kf 2)) #[] #[], .func (.func (Kf 3)) #[] #[]] 107)) := (Below.refl _ _).alloc (Nat.le_refl _) _
  have hc : ∀ r, r < 4 → (w.alloc (.cells #[.func (.func (Kf 0)) #[] #[], .func (.func (Kf 1)) #[] #[], .func (.func (Kf 2)) #[] #[], .func (.func (Kf 3)) #[] #[]] 107)).cell? ⟨w.heap.size, r, none⟩ = some (.func (.func (Kf r)) #[] #[]) := fun r hr => by
    rw [cell_of_row _ _ _ _ _ _ hb]
    rcases (by omega : r = 0 ∨ r = 1 ∨ r = 2 ∨ r = 3) with rfl | rfl | rfl | rfl <;> rfl
  have HC : Hid (∀ r, r < 4 → (w.alloc (.cells #[.func (.func (Kf 0)) #[] #[], .func (.func (Kf 1)) #[] #[], .func (.func (Kf 2)) #[] #[], .func (.func (Kf 3)) #[] #[]] 107)).cell? ⟨w.heap.size, r, none⟩ = some (.func (.func (Kf r)) #[] #[])) := hc
  clear hc hb
  go_enter Tryd.func71, Tryd.ntmps71
  go_wp2
  go_ret
  exact ⟨_, rfl, HC.out, hB⟩


set_option maxRecDepth 100000 in
set_option maxHeartbeats 8000000 in
theorem check_at (F : Int) (v : Value) (k : Nat) (N : Nat → Nat) (T : Nat → Nat → Nd) (L : Nat) (w : World) (hv : MRow w v k N T L) (ht : Tab w) (hL : 1 ≤ L) (hLM : L ≤ 30000) :
    Calls Tryd.prog 54 #[.agg #[.int .i64 F, v]] w fun e w' => ∃ u, e = .returned u ∧ ChkOut F k N T u ∧ Below w.heap.size w w' := by
  obtain ⟨ao, c, rfl, hnc, hc63⟩ := hv.open
  have BB : Below w.heap.size w w := Below.refl _ _
  obtain ⟨Wb0, hW0, hS0, hL0, VM⟩ := V2.lay w 34 (.int .i64 F) (.slice ao k c)
  replace hv := hv.below hL0
  replace ht := ht.below hL0
  replace BB := BB.trans (hL0.mono BB.size)
  clear hL0
  obtain ⟨Wb1, hW1, hS1, hL1, VR⟩ := V4.lay Wb0 89 (.int .i64 0) (.int .i64 0) (.int .i64 0) (.int .i64 0)
  rw [hS0] at VR hS1
  replace hv := hv.below hL1
  replace ht := ht.below hL1
  replace VM := VM.below hL1
  replace BB := BB.trans (hL1.mono BB.size)
  clear hL1
  go_enter Tryd.func54, Tryd.ntmps54
  obtain ⟨VM_0, VM_1, VM_2, VM_3⟩ := id VM
  rw [hW1, hW0] at VM_0 VM_1 VM_2 VM_3
  go_wp2_with fail
  clear VM_0 VM_1 VM_2 VM_3
  rw [← hW0]
  rw [← hW1]
  clear hW0 hW1 hS0 hS1
  refine (fits_at F _ k N T L _ hv).mono ?_
  rintro e w1 ⟨rfl, b1⟩
  replace hv := hv.below b1
  replace ht := ht.below b1
  replace VM := VM.below b1
  replace VR := VR.below b1
  replace BB := BB.trans (b1.mono BB.size)
  clear b1
  cases hmf : mfit F k N T
  · have HM : Hid (mfit F k N T = false) := hmf
    clear hmf
    obtain ⟨⟨q1, q2, q3, q4, q5, q6⟩, q7, q8⟩ := id VR
    go_wp2
    (try simp only [Exit.inBlock, Exit.then])
    refine bodyPost_ret (v := .agg #[.int .i64 1, .int .i64 0, .int .i64 0, .int .i64 0]) (by simp [results, go_sem, q1, q2, q3, q7]) rfl ?_
    exact ⟨_, rfl, .inl ⟨HM.out, rfl⟩, below_store4 BB (by omega) _ _ _ _⟩
  · have HM : Hid (mfit F k N T = true) := hmf
    obtain ⟨hF0, hF1, hk64, hlens⟩ := mfit_is hmf
    have HLN : Hid (∀ i, i < k → 1 ≤ N i ∧ N i ≤ 255) := hlens
    clear hmf hlens hF0 hF1
    go_wp2_with fail
    refine (rules_at _).mono ?_
    rintro e w2 ⟨gr, rfl, hRc, b2⟩
    replace hv := hv.below b2
    replace ht := ht.below b2
    replace VM := VM.below b2
    replace VR := VR.below b2
    replace BB := BB.trans (b2.mono BB.size)
    clear b2
    have HRC : Hid (∀ r, r < 4 → w2.cell? ⟨gr, r, none⟩ = some (.func (.func (Kf r)) #[] #[])) := hRc
    clear hRc
    have hv0 := hv
    have ht0 := ht
    have VM0 := VM
    have VR0 := VR
    have BB0 : Hid (Below w.heap.size w w2) := BB
    clear hv ht VM VR BB
    go_wp2
    go_loopw [14] (fun vi wr => ∃ r : Nat, r ≤ 4 ∧ vi = .int .i64 (r : Int) ∧ Hid (∀ r', r' < r → ∀ i, i < k → rl F (T i) (N i) r' = none) ∧ Below w2.heap.size w2 wr) (fun vi _ => 4 - (intOf vi).toNat)
    case atStart => exact ⟨0, by omega, rfl, fun r' h => by omega, Below.refl _ _⟩
    case round =>
      obtain ⟨r, hr, rfl, HB, BL⟩ := hrel
      by_cases hlt : r < 4
      · have g1 : (r : Int) < 4 := by omega
        have g0 : (0 : Int) ≤ (r : Int) := by omega
        have XK0 := HRC.out r hlt
        have XK : wr.cell? ⟨gr, r, none⟩ = some (.func (.func (Kf r)) #[] #[]) := (BL.cell (World.block_lt_of_cell? _ _ XK0)).trans XK0
        clear XK0
        obtain ⟨VM_0, VM_1, VM_2, VM_3⟩ := VM0.below BL
        go_wp2
        clear VM_0 VM_1 VM_2 VM_3 XK
        obtain ⟨wo, rfl⟩ : ∃ wo, wo = wr := ⟨_, rfl⟩
        have hEn := Kf_enters r
        have HEN : Hid (∀ (args : Array Value) (w : World), Sem.run Tryd.prog (callFunc (Kf r) args) w = .ok (.enter (Kf r) args) w) := hEn
        clear hEn
        go_loopw [21] (fun vi wr => ∃ i : Nat, i ≤ k ∧ vi = .int .i64 (i : Int) ∧ Hid (∀ i', i' < i → rl F (T i') (N i') r = none) ∧ Below w2.heap.size w2 wr) (fun vi _ => k - (intOf vi).toNat)
        case atStart => exact ⟨0, by omega, rfl, fun i' h => by omega, BL⟩
        case round =>
          clear BL
          obtain ⟨i, hi, rfl, HI, BL⟩ := hrel
          by_cases hlt2 : i < k
          · have g2 : (i : Int) < (k : Int) := by omega
            have g3 : (0 : Int) ≤ (i : Int) := by omega
            obtain ⟨b, off, cc, a, d, hvv, hcc, XC, TR⟩ := (hv0.below BL).at hlt2
            cases hvv
            have ht := ht0.below BL
            have VM := VM0.below BL
            have VR := VR0.below BL
            have BB := BB0.out.trans (BL.mono BB0.out.size)
            obtain ⟨VM_0, VM_1, VM_2, VM_3⟩ := id VM
            obtain ⟨hn1, hn2⟩ := HLN.out i hlt2
            have HNM : Hid (0 < r → Named (T i) (N i)) := fun h0 => rl0_named (HB.out 0 h0 i hlt2)
            have hEn := HEN.out
            obtain ⟨K, hK⟩ : ∃ K, K = Kf r := ⟨_, rfl⟩
            rw [← hK] at hEn
            rw [← hK]
            have HK : Hid (K = Kf r) := hK
            clear hK
            have hcall := rule_any r hlt (.slice a (N i) d) (N i) (T i) F L wr TR ht hn1 hn2 HNM.out hL hLM
            rw [← HK.out] at hcall
            have HCL : Hid (Calls Tryd.prog K #[.slice a (N i) d, .int .i64 F] wr fun e w' => e = .returned (rlV F (T i) (N i) r) ∧ Below wr.heap.size wr w') := hcall
            clear hcall
            go_wp2_with fail
            refine HCL.out.mono ?_
            rintro e w40 ⟨rfl, b40⟩
            replace VR := VR.below b40
            replace BB := BB.trans (b40.mono BB.size)
            replace BL := BL.trans (b40.mono BL.size)
            clear HCL b40 XC TR ht VM VM_0 VM_1 VM_2 VM_3 hEn HNM
            have HRV : Hid (rlV F (T i) (N i) r = fltV ((rl F (T i) (N i) r).map (fun x => (x.1, 0, x.2)))) := rfl
            rw [HRV.out]
            clear HRV
            cases hrl : rl F (T i) (N i) r
            · have HI2 : Hid (∀ i', i' < i + 1 → rl F (T i') (N i') r = none) := fun i' h => by
                by_cases e : i' = i
                · subst e; exact hrl
                · exact HI.out i' (by omega)
              clear hrl HI
              rw [show fltV (Option.map (fun x : Int × Nat => (x.1, 0, x.2)) none) = .agg #[.int .i64 0, .int .i64 0, .int .i64 0, .int .i64 0] from rfl]
              obtain ⟨W1, rfl, hS1, hL1, VF⟩ := V4.lay w40 89 (.int .i64 0) (.int .i64 0) (.int .i64 0) (.int .i64 0)
              replace BL := BL.trans (hL1.mono BL.size)
              obtain ⟨⟨y1, y2, y3, y4, y5, y6⟩, y7, y8⟩ := id VF
              go_wp2
              go_roundw
              case rel => exact ⟨i + 1, by omega, by go_num, HI2, BL⟩
              case measure => simp [intOf]; omega
            · rename_i en
              obtain ⟨er, nd⟩ := en
              have hee := rl_err hrl
              have HRL : Hid (rl F (T i) (N i) r = some (er, nd)) := hrl
              clear hrl
              rw [show fltV (Option.map (fun x : Int × Nat => (x.1, 0, x.2)) (some (er, nd))) = .agg #[.int .i64 er, .int .i64 0, .int .i64 0, .int .i64 (nd : Int)] from rfl]
              have HX : Hid (IsFirst F k N T (some (er, i, nd))) := .inr ⟨r, i, er, nd, hlt, hlt2, rfl, HRL.out, HB.out, HI.out⟩
              clear HRL HB HI
              obtain ⟨W1, rfl, hS1, hL1, VF⟩ := V4.lay w40 89 (.int .i64 er) (.int .i64 0) (.int .i64 0) (.int .i64 (nd : Int))
              obtain ⟨⟨y1, y2, y3, y4, y5, y6⟩, y7, y8⟩ := id VF
              have VS := (VR.same (.int .i64 er) (.int .i64 0) (.int .i64 (i : Int)) (.int .i64 (nd : Int))).below ((Below.refl _ _).alloc (Nat.le_refl _) (.cells #[.int .i64 er, .int .i64 0, .int .i64 (i : Int), .int .i64 (nd : Int)] 89))
              have BS := below_store4 BB (Nat.le_add_right _ 1) (.int .i64 er) (.int .i64 0) (.int .i64 (i : Int)) (.int .i64 (nd : Int))
              have BS2 := BS.alloc BS.size (.cells #[.int .i64 er, .int .i64 0, .int .i64 (i : Int), .int .i64 (nd : Int)] 89)
              have hne := VR.lt
              have HVS : Hid (V4 _ _ _ _ _ _) := VS
              clear VF VS
              obtain ⟨⟨z1, z2, z3, z4, z5, z6⟩, z7, z8⟩ := id VR
              rcases hee with rfl | rfl | rfl | rfl
              · go_wp2
                (try simp only [Exit.inBlock, Exit.then])
                obtain ⟨⟨q1, q2, q3, q4, q5, q6⟩, q7, q8⟩ := HVS.out
                refine bodyPost_ret (v := .agg #[.int .i64 8, .int .i64 0, .int .i64 (i : Int), .int .i64 (nd : Int)]) (by simp [results, go_sem, q1, q2, q3, q7]) rfl ?_
                refine ⟨_, rfl, .inr ⟨HM.out, _, HX.out, rfl⟩, ?_⟩
                exact BS2
              · go_wp2
                (try simp only [Exit.inBlock, Exit.then])
                obtain ⟨⟨q1, q2, q3, q4, q5, q6⟩, q7, q8⟩ := HVS.out
                refine bodyPost_ret (v := .agg #[.int .i64 11, .int .i64 0, .int .i64 (i : Int), .int .i64 (nd : Int)]) (by simp [results, go_sem, q1, q2, q3, q7]) rfl ?_
                refine ⟨_, rfl, .inr ⟨HM.out, _, HX.out, rfl⟩, ?_⟩
                exact BS2
              · go_wp2
                (try simp only [Exit.inBlock, Exit.then])
                obtain ⟨⟨q1, q2, q3, q4, q5, q6⟩, q7, q8⟩ := HVS.out
                refine bodyPost_ret (v := .agg #[.int .i64 12, .int .i64 0, .int .i64 (i : Int), .int .i64 (nd : Int)]) (by simp [results, go_sem, q1, q2, q3, q7]) rfl ?_
                refine ⟨_, rfl, .inr ⟨HM.out, _, HX.out, rfl⟩, ?_⟩
                exact BS2
              · go_wp2
                (try simp only [Exit.inBlock, Exit.then])
                obtain ⟨⟨q1, q2, q3, q4, q5, q6⟩, q7, q8⟩ := HVS.out
                refine bodyPost_ret (v := .agg #[.int .i64 13, .int .i64 0, .int .i64 (i : Int), .int .i64 (nd : Int)]) (by simp [results, go_sem, q1, q2, q3, q7]) rfl ?_
                refine ⟨_, rfl, .inr ⟨HM.out, _, HX.out, rfl⟩, ?_⟩
                exact BS2
          · have HB2 : Hid (∀ r', r' < r + 1 → ∀ i, i < k → rl F (T i) (N i) r' = none) := fun r' h i' hi' => by
              by_cases e : r' = r
              · subst e; exact HI.out i' (by omega)
              · exact HB.out r' (by omega) i' hi'
            clear HB HI
            obtain rfl : i = k := by omega
            have g2 : ¬ (i : Int) < (i : Int) := by omega
            go_wp2
            go_roundw
            case rel => exact ⟨r + 1, by omega, by go_num, HB2, BL⟩
            case measure => simp [intOf]; omega
      · obtain rfl : r = 4 := by omega
        have VR := VR0.below BL
        have BB := BB0.out.trans (BL.mono BB0.out.size)
        obtain ⟨⟨q1, q2, q3, q4, q5, q6⟩, q7, q8⟩ := id VR
        go_wp2
        (try simp only [Exit.inBlock, Exit.then])
        refine bodyPost_ret (v := .agg #[.int .i64 0, .int .i64 0, .int .i64 0, .int .i64 0]) (by simp [results, go_sem, q1, q2, q3, q7]) rfl ?_
        exact ⟨_, rfl, .inr ⟨HM.out, none, .inl ⟨rfl, HB.out⟩, rfl⟩, below_store4 BB (by omega) _ _ _ _⟩

end Go.Proofs.YtnnnkajomljdgaaDoor

namespace Go.Proofs.YtnnnkajomljdgaaDoor
set_option linter.unusedVariables false
set_option linter.unusedSimpArgs false

/-- A tree that may be for so many features. -/
structure MayT (F : Int) (t : Nat → Nd) (n : Nat) : Prop where
  pos : 1 ≤ n
  few : n ≤ 255
  feat : ∀ i, i < n → (t i).leaf = false → 0 ≤ (t i).feat ∧ (t i).feat < F
  named : Named t n
  once : Once t n
  up : ∀ i, i < n → lawUp t n (n + 1) i = true
  cov : ∀ i, i < n → 0 < (t i).cov
  parts : ∀ i, i < n → (t i).leaf = false → (t i).cov = (t (t i).left.toNat).cov + (t (t i).right.toNat).cov
theorem rl_none1 {F : Int} {t : Nat → Nd} {n : Nat} (h : rl F t n 1 = none) : fb (bad1 t n) n = none ∧ fb (bad2 t n) n = none := by
  simp only [rl, Option.map_eq_none_iff] at h
  cases e : fb (bad1 t n) n with
  | none => rw [e] at h; exact ⟨rfl, by simpa using h⟩
  | some i => rw [e] at h; simp at h
theorem mayT_of {F : Int} {t : Nat → Nd} {n : Nat} (hf : tfit t n = true) (h : ∀ r, r < 4 → rl F t n r = none) : MayT F t n := by
  unfold tfit at hf
  simp only [Bool.and_eq_true, decide_eq_true_eq, Option.isNone_iff_eq_none] at hf
  have h0 := h 0 (by omega)
  have h1 := rl_none1 (h 1 (by omega))
  have h2 := h 2 (by omega)
  have h3 := h 3 (by omega)
  simp only [rl, Option.map_eq_none_iff] at h0 h2 h3
  refine ⟨hf.1.1, hf.1.2, fun i hi hl => ?_, rl0_named (h 0 (by omega)), bad1_once h1.1, fun i hi => ?_, fun i hi => ?_, fun i hi hl => ?_⟩
  · have a := fb_is hf.2 i hi
    have b := fb_is h0 i hi
    unfold badF at a
    unfold bad0 at b
    rw [hl] at b
    simp only [Bool.not_false, Bool.true_and, Bool.or_eq_false_iff, decide_eq_false_iff_not] at b
    simp only [Bool.not_eq_false', Bool.and_eq_true, decide_eq_true_eq] at a
    omega
  · have := fb_is h1.2 i hi
    unfold bad2 at this
    simpa using this
  · have := fb_is h2 i hi
    unfold bad3 at this
    rw [decide_eq_false_iff_not] at this
    grind
  · have := fb_is h3 i hi
    unfold bad4 at this
    rw [hl] at this
    simpa using this
theorem ChkOut.may {F : Int} {k : Nat} {N : Nat → Nat} {T : Nat → Nat → Nd} {s d : Int} (h : ChkOut F k N T (.agg #[.int .i64 0, .int .i64 0, .int .i64 s, .int .i64 d])) : 0 ≤ F ∧ F ≤ 64 ∧ k ≤ 64 ∧ ∀ i, i < k → MayT F (T i) (N i) := by
  rcases h with ⟨_, e⟩ | ⟨hf, x, hx, e⟩
  · simp at e
  · rcases hx with ⟨rfl, hx⟩ | ⟨r, i, er, nd, hr, hi, rfl, h1, _⟩
    · have a := mfit_is hf
      refine ⟨a.1, a.2.1, a.2.2.1, fun i hi => mayT_of ?_ (fun r hr => hx r hr i hi)⟩
      unfold mfit at hf
      simp only [Bool.and_eq_true, decide_eq_true_eq, Option.isNone_iff_eq_none] at hf
      have := fb_is hf.2 i hi
      simpa using this
    · have := rl_err h1
      simp [fltV] at e
      omega

/-- How many steps a node lies below the first. -/
def lv (t : Nat → Nd) (n : Nat) : Nat → Nat → Nat
  | 0, _ => 0
  | k + 1, x => if x = 0 then 0 else match upOf t x n with
    | none => 0
    | some p => lv t n k p + 1
theorem lv_more {t : Nat → Nd} {n : Nat} : ∀ k x, lawUp t n k x = true → lv t n (k + 1) x = lv t n k x
  | 0, x, h => by simp [lawUp] at h
  | k + 1, x, h => by
    show (if x = 0 then 0 else match upOf t x n with | none => 0 | some p => lv t n (k + 1) p + 1) = (if x = 0 then 0 else match upOf t x n with | none => 0 | some p => lv t n k p + 1)
    unfold lawUp at h
    by_cases e : x = 0
    · rw [if_pos e, if_pos e]
    · rw [if_neg e] at h
      rw [if_neg e, if_neg e]
      cases u : upOf t x n with
      | none => rfl
      | some p =>
        rw [u] at h
        show lv t n (k + 1) p + 1 = lv t n k p + 1
        rw [lv_more k p h]
theorem lv_lt {t : Nat → Nd} {n : Nat} : ∀ k x, lawUp t n k x = true → lv t n k x < k
  | 0, x, h => by simp [lawUp] at h
  | k + 1, x, h => by
    rw [lv]
    unfold lawUp at h
    by_cases e : x = 0
    · rw [if_pos e]; exact Nat.succ_pos k
    · rw [if_neg e] at h
      rw [if_neg e]
      cases u : upOf t x n with
      | none => rw [u] at h; cases h
      | some p =>
        rw [u] at h
        have := lv_lt k p h
        show lv t n k p + 1 < k + 1
        omega
def lvl (t : Nat → Nd) (n x : Nat) : Nat := lv t n (n + 1) x
theorem MayT.lvl_le {F : Int} {t : Nat → Nd} {n : Nat} (h : MayT F t n) {x : Nat} (hx : x < n) : lvl t n x ≤ n := by
  have := lv_lt (n + 1) x (h.up x hx)
  unfold lvl
  omega
theorem MayT.lvl_kid {F : Int} {t : Nat → Nd} {n : Nat} (h : MayT F t n) {y x : Nat} (hy : y < n) (hx : x < n) (h1 : 1 ≤ x) (hk : kid t y x) : lvl t n x = lvl t n y + 1 := by
  have hu := h.up x hx
  unfold lvl
  unfold lawUp at hu
  rw [if_neg (by omega)] at hu
  cases u : upOf t x n with
  | none => rw [u] at hu; cases hu
  | some p =>
    rw [u] at hu
    obtain ⟨p1, p2⟩ := upOf_some u
    have : p = y := h.once.one h1 hx p1 hy p2 hk
    subst this
    rw [lv, if_neg (by omega), u]
    show lv t n n p + 1 = lv t n (n + 1) p + 1
    rw [lv_more n p hu]

/-- To which side an entry goes; the next node; the way. -/
def goL (a : Nd) (c : Cl) : Bool := if a.leaf = true then false else if c.miss = true then a.miss else decide (c.val < a.cut)
def nxt (a : Nd) (r : Nat → Cl) : Nat := if goL a (r a.feat.toNat) = true then a.left.toNat else a.right.toNat
def wayN (t : Nat → Nd) (r : Nat → Cl) : Nat → Nat → List Nat
  | 0, x => [x]
  | k + 1, x => if (t x).leaf = true then [x] else x :: wayN t r k (nxt (t x) r)
theorem nxt_kid {t : Nat → Nd} {n x : Nat} (hN : Named t n) (hx : x < n) (hl : (t x).leaf = false) (r : Nat → Cl) : 1 ≤ nxt (t x) r ∧ nxt (t x) r < n ∧ kid t x (nxt (t x) r) := by
  have := hN x hx hl
  unfold nxt
  by_cases g : goL (t x) (r (t x).feat.toNat) = true
  · rw [if_pos g]
    exact ⟨by omega, by omega, hl, .inl (by omega)⟩
  · rw [if_neg g]
    exact ⟨by omega, by omega, hl, .inr (by omega)⟩
theorem MayT.nxt {F : Int} {t : Nat → Nd} {n : Nat} (h : MayT F t n) {x : Nat} (hx : x < n) (hl : (t x).leaf = false) (r : Nat → Cl) : Go.Proofs.YtnnnkajomljdgaaDoor.nxt (t x) r < n ∧ lvl t n (Go.Proofs.YtnnnkajomljdgaaDoor.nxt (t x) r) = lvl t n x + 1 := by
  obtain ⟨h1, h2, h3⟩ := nxt_kid h.named hx hl r
  exact ⟨h2, h.lvl_kid hx h2 h1 h3⟩
theorem MayT.way_more {F : Int} {t : Nat → Nd} {n : Nat} (h : MayT F t n) (r : Nat → Cl) : ∀ k x, x < n → n + 1 ≤ lvl t n x + k → wayN t r (k + 1) x = wayN t r k x
  | 0, x, hx, hk => by have := h.lvl_le hx; omega
  | k + 1, x, hx, hk => by
    show (if (t x).leaf = true then [x] else x :: wayN t r (k + 1) (Go.Proofs.YtnnnkajomljdgaaDoor.nxt (t x) r)) = (if (t x).leaf = true then [x] else x :: wayN t r k (Go.Proofs.YtnnnkajomljdgaaDoor.nxt (t x) r))
    cases hl : (t x).leaf with
    | true => rfl
    | false =>
      obtain ⟨a, b⟩ := h.nxt hx hl r
      rw [if_neg (by simp), if_neg (by simp), h.way_more r k _ a (by omega)]
theorem MayT.way_plus {F : Int} {t : Nat → Nd} {n : Nat} (h : MayT F t n) (r : Nat → Cl) {k x : Nat} (hx : x < n) (hk : n + 1 ≤ lvl t n x + k) : ∀ d, wayN t r (k + d) x = wayN t r k x
  | 0 => rfl
  | d + 1 => by rw [← Nat.add_assoc, h.way_more r (k + d) x hx (by omega), h.way_plus r hx hk d]
/-- The way from a node on. -/
def way (t : Nat → Nd) (n : Nat) (r : Nat → Cl) (x : Nat) : List Nat := wayN t r (n + 1) x
theorem way_leaf {t : Nat → Nd} {n x : Nat} {r : Nat → Cl} (hl : (t x).leaf = true) : way t n r x = [x] := by unfold way; rw [wayN, if_pos hl]
theorem MayT.way_split {F : Int} {t : Nat → Nd} {n : Nat} (h : MayT F t n) (r : Nat → Cl) {x : Nat} (hx : x < n) (hl : (t x).leaf = false) : way t n r x = x :: way t n r (Go.Proofs.YtnnnkajomljdgaaDoor.nxt (t x) r) := by
  obtain ⟨a, b⟩ := h.nxt hx hl r
  unfold way
  rw [wayN, if_neg (by simp [hl]), h.way_more r n _ a (by omega)]
theorem MayT.way_ind {F : Int} {t : Nat → Nd} {n : Nat} (h : MayT F t n) (r : Nat → Cl) {P : Nat → Prop} (h0 : ∀ x, x < n → (t x).leaf = true → P x) (h1 : ∀ x, x < n → (t x).leaf = false → P (Go.Proofs.YtnnnkajomljdgaaDoor.nxt (t x) r) → P x) : ∀ k x, x < n → n + 1 ≤ lvl t n x + k → P x
  | 0, x, hx, hk => by have := h.lvl_le hx; omega
  | k + 1, x, hx, hk => by
    cases hl : (t x).leaf with
    | true => exact h0 x hx hl
    | false =>
      obtain ⟨a, b⟩ := h.nxt hx hl r
      exact h1 x hx hl (h.way_ind r h0 h1 k _ a (by omega))
theorem MayT.by_way {F : Int} {t : Nat → Nd} {n : Nat} (h : MayT F t n) (r : Nat → Cl) {P : Nat → Prop} (h0 : ∀ x, x < n → (t x).leaf = true → P x) (h1 : ∀ x, x < n → (t x).leaf = false → P (Go.Proofs.YtnnnkajomljdgaaDoor.nxt (t x) r) → P x) {x : Nat} (hx : x < n) : P x := h.way_ind r h0 h1 (n + 1) x hx (by omega)
/-- The leaf at the end of the way. -/
def wlast (t : Nat → Nd) (n : Nat) (r : Nat → Cl) (x : Nat) : Nat := (way t n r x).getLastD 0
theorem wlast_leaf {t : Nat → Nd} {n x : Nat} {r : Nat → Cl} (hl : (t x).leaf = true) : wlast t n r x = x := by unfold wlast; rw [way_leaf hl]; rfl
theorem way_ne (t : Nat → Nd) (n : Nat) (r : Nat → Cl) (x : Nat) : way t n r x ≠ [] := by
  unfold way
  rw [wayN]
  by_cases e : (t x).leaf = true
  · rw [if_pos e]; simp
  · rw [if_neg e]; simp
theorem MayT.wlast_split {F : Int} {t : Nat → Nd} {n : Nat} (h : MayT F t n) (r : Nat → Cl) {x : Nat} (hx : x < n) (hl : (t x).leaf = false) : wlast t n r x = wlast t n r (Go.Proofs.YtnnnkajomljdgaaDoor.nxt (t x) r) := by
  unfold wlast
  rw [h.way_split r hx hl]
  have := way_ne t n r (Go.Proofs.YtnnnkajomljdgaaDoor.nxt (t x) r)
  cases e : way t n r (Go.Proofs.YtnnnkajomljdgaaDoor.nxt (t x) r) with
  | nil => exact absurd e this
  | cons a l => simp [List.getLastD]
theorem MayT.wlast_is {F : Int} {t : Nat → Nd} {n : Nat} (h : MayT F t n) (r : Nat → Cl) {x : Nat} (hx : x < n) : wlast t n r x < n ∧ (t (wlast t n r x)).leaf = true :=
  h.by_way r (P := fun x => wlast t n r x < n ∧ (t (wlast t n r x)).leaf = true) (fun x hx hl => by rw [wlast_leaf hl]; exact ⟨hx, hl⟩) (fun x hx hl ih => by rw [h.wlast_split r hx hl]; exact ih) hx
theorem MayT.way_len {F : Int} {t : Nat → Nd} {n : Nat} (h : MayT F t n) (r : Nat → Cl) {x : Nat} (hx : x < n) : (way t n r x).length + lvl t n x ≤ n + 1 :=
  h.by_way r (P := fun x => (way t n r x).length + lvl t n x ≤ n + 1) (fun x hx hl => by have := h.lvl_le hx; rw [way_leaf hl]; simp; omega) (fun x hx hl ih => by
    have := (h.nxt hx hl r).2
    rw [h.way_split r hx hl]
    simp only [List.length_cons]
    omega) hx
theorem MayT.way_small {F : Int} {t : Nat → Nd} {n : Nat} (h : MayT F t n) (r : Nat → Cl) {x : Nat} (hx : x < n) : ∀ y ∈ way t n r x, y < n :=
  h.by_way r (P := fun x => ∀ y ∈ way t n r x, y < n) (fun x hx hl => by rw [way_leaf hl]; simp; exact hx) (fun x hx hl ih => by
    rw [h.way_split r hx hl]
    intro y hy
    rw [List.mem_cons] at hy
    rcases hy with rfl | hy
    · exact hx
    · exact ih y hy) hx

/-- What a model predicts: tree by tree, and in all. -/
def leafV (T : Nat → Nat → Nd) (N : Nat → Nat) (r : Nat → Cl) (i : Nat) : Rat := (T i (wlast (T i) (N i) r 0)).val
def predN (T : Nat → Nat → Nd) (N : Nat → Nat) (r : Nat → Cl) : Nat → Rat
  | 0 => 0
  | k + 1 => predN T N r k + leafV T N r k

end Go.Proofs.YtnnnkajomljdgaaDoor

namespace Go.Proofs.YtnnnkajomljdgaaDoor
open Go.RowKit
set_option linter.unusedVariables false
set_option linter.unusedSimpArgs false

theorem cmpQ_lt10 (q r : Rat) : decide (cmpQ q r < 0) = decide (q < r) := by
  unfold cmpQ
  by_cases h : q < r
  · simp [h]
  · by_cases h2 : r < q
    · simp [h, h2]
    · simp [h, h2]


set_option maxRecDepth 100000 in
set_option maxHeartbeats 4000000 in
theorem rleft_at (d : Nd) (c : Cl) (p1 p2 p3 p4 : Bool) (a1 b1 a2 b2 a3 b3 a4 b4 : Option Addr) (n1 c1 m1 d1 n2 c2 m2 d2 n3 c3 m3 d3 n4 c4 m4 d4 : Nat) (L : Nat) (w : World) (hu : RatAt w (.agg #[.bool p1, .slice a1 n1 c1, .slice b1 m1 d1]) d.cut L) (hv : RatAt w (.agg #[.bool p4, .slice a4 n4 c4, .slice b4 m4 d4]) c.val L) (hL : 1 ≤ L) (hM : L ≤ 100000) :
    Calls Tryd.prog 6 #[.agg #[.bool d.leaf, .int .i64 d.feat, .bool p1, .slice a1 n1 c1, .slice b1 m1 d1, .int .i64 d.left, .int .i64 d.right, .bool d.miss, .bool p2, .slice a2 n2 c2, .slice b2 m2 d2, .bool p3, .slice a3 n3 c3, .slice b3 m3 d3], .agg #[.bool c.miss, .bool p4, .slice a4 n4 c4, .slice b4 m4 d4]] w fun e w' => e = .returned (.bool (goL d c)) ∧ Below w.heap.size w w' := by
  have hAB : ∀ o o', Below w.heap.size w ((w.alloc o).alloc o') := fun o o' => ((Below.refl _ _).alloc (Nat.le_refl _) _).alloc (by simp) _
  rcases d with ⟨lf, ft, q, ll, rr, ms, vl, cv⟩
  rcases c with ⟨cm, r⟩
  dsimp only at hu hv ⊢
  cases lf
  · cases cm
    · have HO : Hid (goL ⟨false, ft, q, ll, rr, ms, vl, cv⟩ ⟨false, r⟩ = decide (r < q)) := rfl
      have h1 := hu.below (hAB (.cells #[.bool false, .int .i64 ft, .bool p1, .slice a1 n1 c1, .slice b1 m1 d1, .int .i64 ll, .int .i64 rr, .bool ms, .bool p2, .slice a2 n2 c2, .slice b2 m2 d2, .bool p3, .slice a3 n3 c3, .slice b3 m3 d3] 29) (.cells #[.bool false, .bool p4, .slice a4 n4 c4, .slice b4 m4 d4] 31))
      have h2 := hv.below (hAB (.cells #[.bool false, .int .i64 ft, .bool p1, .slice a1 n1 c1, .slice b1 m1 d1, .int .i64 ll, .int .i64 rr, .bool ms, .bool p2, .slice a2 n2 c2, .slice b2 m2 d2, .bool p3, .slice a3 n3 c3, .slice b3 m3 d3] 29) (.cells #[.bool false, .bool p4, .slice a4 n4 c4, .slice b4 m4 d4] 31))
      have BB := hAB (.cells #[.bool false, .int .i64 ft, .bool p1, .slice a1 n1 c1, .slice b1 m1 d1, .int .i64 ll, .int .i64 rr, .bool ms, .bool p2, .slice a2 n2 c2, .slice b2 m2 d2, .bool p3, .slice a3 n3 c3, .slice b3 m3 d3] 29) (.cells #[.bool false, .bool p4, .slice a4 n4 c4, .slice b4 m4 d4] 31)
      go_enter Tryd.func6, Tryd.ntmps6
      go_wp2_with fail
      refine (qcmp_at _ _ r q L _ h2 h1 hL hM).mono ?_
      rintro e w1 ⟨rfl, b1⟩
      replace BB := BB.trans (b1.mono BB.size)
      clear b1 h1 h2
      have HC : Hid (decide (cmpQ r q < 0) = decide (r < q)) := cmpQ_lt10 r q
      generalize cmpQ r q = cq at *
      go_wp2
      go_ret
      exact ⟨by rw [HO.out, ← HC.out]; rfl, BB⟩
    · cases ms <;> (go_enter Tryd.func6, Tryd.ntmps6; go_wp2; go_ret; exact ⟨rfl, hAB _ _⟩)
  · go_enter Tryd.func6, Tryd.ntmps6
    go_wp2
    go_ret
    exact ⟨rfl, hAB _ _⟩


set_option maxRecDepth 100000 in
set_option maxHeartbeats 4000000 in
theorem lleft_at (d : Nd) (c : Cl) (p1 p2 p3 p4 : Bool) (a1 b1 a2 b2 a3 b3 a4 b4 : Option Addr) (n1 c1 m1 d1 n2 c2 m2 d2 n3 c3 m3 d3 n4 c4 m4 d4 : Nat) (L : Nat) (w : World) (hu : RatAt w (.agg #[.bool p1, .slice a1 n1 c1, .slice b1 m1 d1]) d.cut L) (hv : RatAt w (.agg #[.bool p4, .slice a4 n4 c4, .slice b4 m4 d4]) c.val L) (hL : 1 ≤ L) (hM : L ≤ 100000) :
    Calls Tryd.prog 7 #[.agg #[.bool d.leaf, .int .i64 d.feat, .bool p1, .slice a1 n1 c1, .slice b1 m1 d1, .int .i64 d.left, .int .i64 d.right, .bool d.miss, .bool p2, .slice a2 n2 c2, .slice b2 m2 d2, .bool p3, .slice a3 n3 c3, .slice b3 m3 d3], .agg #[.bool c.miss, .bool p4, .slice a4 n4 c4, .slice b4 m4 d4]] w fun e w' => e = .returned (.bool (goL d c)) ∧ Below w.heap.size w w' := by
  have hAB : ∀ o o', Below w.heap.size w ((w.alloc o).alloc o') := fun o o' => ((Below.refl _ _).alloc (Nat.le_refl _) _).alloc (by simp) _
  rcases d with ⟨lf, ft, q, ll, rr, ms, vl, cv⟩
  rcases c with ⟨cm, r⟩
  dsimp only at hu hv ⊢
  cases lf
  · cases cm
    · have HO : Hid (goL ⟨false, ft, q, ll, rr, ms, vl, cv⟩ ⟨false, r⟩ = decide (r < q)) := rfl
      have h1 := hu.below (hAB (.cells #[.bool false, .int .i64 ft, .bool p1, .slice a1 n1 c1, .slice b1 m1 d1, .int .i64 ll, .int .i64 rr, .bool ms, .bool p2, .slice a2 n2 c2, .slice b2 m2 d2, .bool p3, .slice a3 n3 c3, .slice b3 m3 d3] 29) (.cells #[.bool false, .bool p4, .slice a4 n4 c4, .slice b4 m4 d4] 31))
      have h2 := hv.below (hAB (.cells #[.bool false, .int .i64 ft, .bool p1, .slice a1 n1 c1, .slice b1 m1 d1, .int .i64 ll, .int .i64 rr, .bool ms, .bool p2, .slice a2 n2 c2, .slice b2 m2 d2, .bool p3, .slice a3 n3 c3, .slice b3 m3 d3] 29) (.cells #[.bool false, .bool p4, .slice a4 n4 c4, .slice b4 m4 d4] 31))
      have BB := hAB (.cells #[.bool false, .int .i64 ft, .bool p1, .slice a1 n1 c1, .slice b1 m1 d1, .int .i64 ll, .int .i64 rr, .bool ms, .bool p2, .slice a2 n2 c2, .slice b2 m2 d2, .bool p3, .slice a3 n3 c3, .slice b3 m3 d3] 29) (.cells #[.bool false, .bool p4, .slice a4 n4 c4, .slice b4 m4 d4] 31)
      go_enter Tryd.func7, Tryd.ntmps7
      go_wp2_with fail
      refine (qcmp_at _ _ r q L _ h2 h1 hL hM).mono ?_
      rintro e w1 ⟨rfl, b1⟩
      replace BB := BB.trans (b1.mono BB.size)
      clear b1 h1 h2
      have HC : Hid (decide (cmpQ r q < 0) = decide (r < q)) := cmpQ_lt10 r q
      generalize cmpQ r q = cq at *
      go_wp2
      go_ret
      exact ⟨by rw [HO.out, ← HC.out]; rfl, BB⟩
    · cases ms <;> (go_enter Tryd.func7, Tryd.ntmps7; go_wp2; go_ret; exact ⟨rfl, hAB _ _⟩)
  · go_enter Tryd.func7, Tryd.ntmps7
    go_wp2
    go_ret
    exact ⟨rfl, hAB _ _⟩

def Quad10 (w : World) (b o : Nat) (x y z u : Value) : Prop := w.cell? ⟨b, o, none⟩ = some x ∧ w.cell? ⟨b, o + 1, none⟩ = some y ∧ w.cell? ⟨b, o + 2, none⟩ = some z ∧ w.cell? ⟨b, o + 3, none⟩ = some u
theorem Quad10.out {w : World} {b o : Nat} {x y z u : Value} (h : Quad10 w b o x y z u) : w.cell? ⟨b, o, none⟩ = some x ∧ w.cell? ⟨b, o + 1, none⟩ = some y ∧ w.cell? ⟨b, o + 2, none⟩ = some z ∧ w.cell? ⟨b, o + 3, none⟩ = some u := h
theorem Quad10.below {w w' : World} {b o : Nat} {x y z u : Value} (h : Quad10 w b o x y z u) (hb : Below w.heap.size w w') : Quad10 w' b o x y z u := by
  have hl := World.block_lt_of_cell? w _ h.1
  exact ⟨(hb.cell (p := ⟨b, o, none⟩) hl).trans h.1, (hb.cell (p := ⟨b, o + 1, none⟩) hl).trans h.2.1, (hb.cell (p := ⟨b, o + 2, none⟩) hl).trans h.2.2.1, (hb.cell (p := ⟨b, o + 3, none⟩) hl).trans h.2.2.2⟩


set_option maxRecDepth 100000 in
set_option maxHeartbeats 8000000 in
theorem child_at (d : Nd) (r : Nat → Cl) (vr : Value) (nr : Nat) (p1 p2 p3 : Bool) (a1 b1 a2 b2 a3 b3 : Option Addr) (n1 c1 m1 d1 n2 c2 m2 d2 n3 c3 m3 d3 : Nat) (L : Nat) (w : World) (hu : RatAt w (.agg #[.bool p1, .slice a1 n1 c1, .slice b1 m1 d1]) d.cut L) (hrow : CRow w vr nr r L) (hf : 0 ≤ d.feat ∧ d.feat < (nr : Int)) (hl : 0 ≤ d.left) (hr : 0 ≤ d.right) (hL : 1 ≤ L) (hM : L ≤ 100000) :
    Calls Tryd.prog 41 #[.agg #[.bool d.leaf, .int .i64 d.feat, .bool p1, .slice a1 n1 c1, .slice b1 m1 d1, .int .i64 d.left, .int .i64 d.right, .bool d.miss, .bool p2, .slice a2 n2 c2, .slice b2 m2 d2, .bool p3, .slice a3 n3 c3, .slice b3 m3 d3], vr] w fun e w' => e = .returned (.int .i64 (nxt d r : Int)) ∧ Below w.heap.size w w' := by
  obtain ⟨hf0, hf1⟩ := hf
  obtain ⟨fn, hfn⟩ : ∃ fn : Nat, d.feat = (fn : Int) := ⟨d.feat.toNat, by omega⟩
  have hfl : fn < nr := by omega
  obtain ⟨lr, hlr⟩ : ∃ x : Nat, d.left = (x : Int) := ⟨d.left.toNat, by omega⟩
  obtain ⟨rr, hrr⟩ : ∃ x : Nat, d.right = (x : Int) := ⟨d.right.toNat, by omega⟩
  have HO : Hid (nxt d r = if goL d (r fn) = true then lr else rr) := by
    show nxt d r = _
    unfold nxt
    rw [hfn, hlr, hrr]
    rfl
  rw [hfn, hlr, hrr]
  have g0 : (0 : Int) ≤ (fn : Int) := by omega
  have g1 : (fn : Int) < (nr : Int) := by omega
  clear hf0 hf1 hl hr hfn hlr hrr
  obtain ⟨lf, hlf⟩ : ∃ z, d.leaf = z := ⟨_, rfl⟩
  obtain ⟨ms, hms⟩ : ∃ z, d.miss = z := ⟨_, rfl⟩
  have CON := fun w (h1 : RatAt w (.agg #[.bool p1, .slice a1 n1 c1, .slice b1 m1 d1]) d.cut L) p4 a4 b4 n4 c4 m4 d4 h2 => rleft_at ⟨lf, (fn : Int), d.cut, (lr : Int), (rr : Int), ms, d.val, d.cov⟩ (r fn) p1 p2 p3 p4 a1 b1 a2 b2 a3 b3 a4 b4 n1 c1 m1 d1 n2 c2 m2 d2 n3 c3 m3 d3 n4 c4 m4 d4 L w h1 h2 hL hM
  have HG : Hid (goL ⟨lf, (fn : Int), d.cut, (lr : Int), (rr : Int), ms, d.val, d.cov⟩ (r fn) = goL d (r fn)) := by
    show goL _ _ = _
    rw [← hlf, ← hms]
    rfl
  have HCON : Hid (∀ (w : World) (h1 : RatAt w (.agg #[.bool p1, .slice a1 n1 c1, .slice b1 m1 d1]) d.cut L) p4 a4 b4 n4 c4 m4 d4 (h2 : RatAt w (.agg #[.bool p4, .slice a4 n4 c4, .slice b4 m4 d4]) (r fn).val L), Calls Tryd.prog 6 #[.agg #[.bool lf, .int .i64 (fn : Int), .bool p1, .slice a1 n1 c1, .slice b1 m1 d1, .int .i64 (lr : Int), .int .i64 (rr : Int), .bool ms, .bool p2, .slice a2 n2 c2, .slice b2 m2 d2, .bool p3, .slice a3 n3 c3, .slice b3 m3 d3], .agg #[.bool (r fn).miss, .bool p4, .slice a4 n4 c4, .slice b4 m4 d4]] w fun e w' => e = .returned (.bool (goL ⟨lf, (fn : Int), d.cut, (lr : Int), (rr : Int), ms, d.val, d.cov⟩ (r fn))) ∧ Below w.heap.size w w') := CON
  rw [hlf, hms]
  clear CON hlf hms
  obtain ⟨ar, cr, rfl, hrc, hr63⟩ := hrow.open
  have BB : Below w.heap.size w w := Below.refl _ _
  obtain ⟨W0, hW0, hS0, hL0, VN, FN⟩ := V14.lay w 29 (.bool lf) (.int .i64 (fn : Int)) (.bool p1) (.slice a1 n1 c1) (.slice b1 m1 d1) (.int .i64 (lr : Int)) (.int .i64 (rr : Int)) (.bool ms) (.bool p2) (.slice a2 n2 c2) (.slice b2 m2 d2) (.bool p3) (.slice a3 n3 c3) (.slice b3 m3 d3)
  replace hu := hu.below hL0
  replace hrow := hrow.below hL0
  replace BB := BB.trans (hL0.mono BB.size)
  clear hL0
  go_enter Tryd.func41, Tryd.ntmps41
  go_wp2_with fail
  rw [← hW0]
  clear hW0 hS0 FN
  obtain ⟨b4, off4, c94, p4, a4, n4, c4, bb4, m4, d4, hv4, hcc4, hc64, X0, X1, X2, X3, r4⟩ := hrow.at hfl
  cases hv4
  obtain ⟨cm, hcm⟩ : ∃ z, (r fn).miss = z := ⟨_, rfl⟩
  rw [hcm] at X0 HCON
  clear hcm
  have QC : Quad10 W0 b4 (off4 + fn * 4) (.bool cm) (.bool p4) (.slice a4 n4 c4) (.slice bb4 m4 d4) := ⟨X0, X1, X2, X3⟩
  clear X0 X1 X2 X3 hrow
  have hDr : Below W0.heap.size W0 W0.drew := (Below.refl _ _).drew
  replace hu := hu.below hDr
  replace r4 := r4.below hDr
  replace QC := QC.below hDr
  replace VN := VN.below hDr
  replace BB := BB.trans (hDr.mono BB.size)
  clear hDr
  refine wp_region_held_drew (S := (fun w' => w'.cell? ⟨w.heap.size, 0, none⟩ = some (.bool lf) ∧ w'.cell? ⟨w.heap.size, 1, none⟩ = some (.int .i64 (fn : Int)) ∧ w'.cell? ⟨w.heap.size, 2, none⟩ = some (.bool p1) ∧ w'.cell? ⟨w.heap.size, 3, none⟩ = some (.slice a1 n1 c1) ∧ w'.cell? ⟨w.heap.size, 4, none⟩ = some (.slice b1 m1 d1) ∧ w'.cell? ⟨w.heap.size, 5, none⟩ = some (.int .i64 (lr : Int)) ∧ w'.cell? ⟨w.heap.size, 6, none⟩ = some (.int .i64 (rr : Int)) ∧ w'.cell? ⟨w.heap.size, 7, none⟩ = some (.bool ms) ∧ w'.cell? ⟨w.heap.size, 8, none⟩ = some (.bool p2) ∧ w'.cell? ⟨w.heap.size, 9, none⟩ = some (.slice a2 n2 c2) ∧ w'.cell? ⟨w.heap.size, 10, none⟩ = some (.slice b2 m2 d2) ∧ w'.cell? ⟨w.heap.size, 11, none⟩ = some (.bool p3) ∧ w'.cell? ⟨w.heap.size, 12, none⟩ = some (.slice a3 n3 c3) ∧ w'.cell? ⟨w.heap.size, 13, none⟩ = some (.slice b3 m3 d3) ∧ w'.cell? ⟨b4, off4 + fn * 4, none⟩ = some (.bool cm) ∧ w'.cell? ⟨b4, off4 + fn * 4 + 1, none⟩ = some (.bool p4) ∧ w'.cell? ⟨b4, off4 + fn * 4 + 2, none⟩ = some (.slice a4 n4 c4) ∧ w'.cell? ⟨b4, off4 + fn * 4 + 3, none⟩ = some (.slice bb4 m4 d4))) (by kernel_rfl) ?_ (fun hHeld => ?_)
  · exact ⟨VN.c0, VN.c1, VN.c2, VN.c3, VN.c4, VN.c5, VN.c6, VN.c7, VN.c8, VN.c9, VN.c10, VN.c11, VN.c12, VN.c13, QC.out.1, QC.out.2.1, QC.out.2.2.1, QC.out.2.2.2⟩
  generalize W0.drew = W1 at *
  refine wpAnyH_take (i := 0) (v := ?_) (by simp only [List.getElem?_toArray, List.getElem?_cons_succ, List.getElem?_cons_zero]; rfl) (by kernel_rfl) (by kernel_rfl) (by kernel_rfl) (by exact fun _ _ _ h => h) (Or.inl ⟨by rfl, ?_⟩) (by assumption) ?_
  rotate_left
  · (intro w hSw; (try dsimp only at hSw); go_simp; (try with_reducible rfl))
  (try simp only [Act.put, List.setIfInBounds_toArray, List.set_cons_zero, List.set_cons_succ])
  refine wpAnyH_take (i := 1) (v := ?_) (by simp only [List.getElem?_toArray, List.getElem?_cons_succ, List.getElem?_cons_zero]; rfl) (by kernel_rfl) (by kernel_rfl) (by kernel_rfl) (by exact fun _ _ _ h => h) (Or.inl ⟨by rfl, ?_⟩) (by assumption) ?_
  rotate_left
  · (intro w hSw; (try dsimp only at hSw); go_simp; (try with_reducible rfl))
  (try simp only [Act.put, List.setIfInBounds_toArray, List.set_cons_zero, List.set_cons_succ])
  refine wpAnyH_take (i := 2) (v := ?_) (by simp only [List.getElem?_toArray, List.getElem?_cons_succ, List.getElem?_cons_zero]; rfl) (by kernel_rfl) (by kernel_rfl) (by kernel_rfl) (by exact fun _ _ _ h => h) (Or.inl ⟨by rfl, ?_⟩) (by assumption) ?_
  rotate_left
  · (intro w hSw; (try dsimp only at hSw); go_simp; (try with_reducible rfl))
  (try simp only [Act.put, List.setIfInBounds_toArray, List.set_cons_zero, List.set_cons_succ])
  refine wpAnyH_take (i := 3) (v := ?_) (by simp only [List.getElem?_toArray, List.getElem?_cons_succ, List.getElem?_cons_zero]; rfl) (by kernel_rfl) (by kernel_rfl) (by kernel_rfl) (by exact fun _ _ _ h => h) (Or.inl ⟨by rfl, ?_⟩) (by assumption) ?_
  rotate_left
  · (intro w hSw; (try dsimp only at hSw); go_simp; (try with_reducible rfl))
  (try simp only [Act.put, List.setIfInBounds_toArray, List.set_cons_zero, List.set_cons_succ])
  refine wpAnyH_take (i := 4) (v := ?_) (by simp only [List.getElem?_toArray, List.getElem?_cons_succ, List.getElem?_cons_zero]; rfl) (by kernel_rfl) (by kernel_rfl) (by kernel_rfl) (by exact fun _ _ _ h => h) (Or.inl ⟨by rfl, ?_⟩) (by assumption) ?_
  rotate_left
  · (intro w hSw; (try dsimp only at hSw); go_simp; (try with_reducible rfl))
  (try simp only [Act.put, List.setIfInBounds_toArray, List.set_cons_zero, List.set_cons_succ])
  refine wpAnyH_take (i := 5) (v := ?_) (by simp only [List.getElem?_toArray, List.getElem?_cons_succ, List.getElem?_cons_zero]; rfl) (by kernel_rfl) (by kernel_rfl) (by kernel_rfl) (by exact fun _ _ _ h => h) (Or.inl ⟨by rfl, ?_⟩) (by assumption) ?_
  rotate_left
  · (intro w hSw; (try dsimp only at hSw); go_simp; (try with_reducible rfl))
  (try simp only [Act.put, List.setIfInBounds_toArray, List.set_cons_zero, List.set_cons_succ])
  refine wpAnyH_ready (rs := [6]) (by kernel_rfl) (by simp) ?_
  refine AllReadyH.cons (by simp only [List.getElem?_toArray, List.getElem?_cons_succ, List.getElem?_cons_zero]; rfl) (fun K hK => ?_) AllReadyH.nil
  go_simp
  refine (HCON.out _ hu _ _ _ _ _ _ _ r4).mono ?_
  rintro e w1 ⟨rfl, b1⟩
  rw [HG.out]
  obtain ⟨g, hg⟩ : ∃ g, goL d (r fn) = g := ⟨_, rfl⟩
  have HGG : Hid (goL d (r fn) = g) := hg
  rw [hg]
  clear hg HCON HG
  go_wp2_with fail
  replace hu := hu.below b1
  replace r4 := r4.below b1
  replace QC := QC.below b1
  replace VN := VN.below b1
  replace BB := BB.trans (b1.mono BB.size)
  clear b1
  refine hK.out _ _ ?_ (fun hH1 => ?_)
  · exact ⟨VN.c0, VN.c1, VN.c2, VN.c3, VN.c4, VN.c5, VN.c6, VN.c7, VN.c8, VN.c9, VN.c10, VN.c11, VN.c12, VN.c13, QC.out.1, QC.out.2.1, QC.out.2.2.1, QC.out.2.2.2⟩
  clear hK K hHeld
  (try simp only [Act.put, List.setIfInBounds_toArray, List.set_cons_zero, List.set_cons_succ])
  refine wpAnyH_done (by kernel_rfl) ?_ _
  clear hH1
  obtain ⟨V_0, V_1, V_2, V_3, V_4, V_5, V_6, V_7, V_8, V_9, V_10, V_11, V_12, V_13⟩ := id VN
  cases g
  · go_wp2
    go_ret
    exact ⟨by rw [HO.out, HGG.out]; rfl, BB⟩
  · go_wp2
    go_ret
    exact ⟨by rw [HO.out, HGG.out]; rfl, BB⟩

/-- Check's answer, opened. -/
theorem ChkOut.open {F : Int} {k : Nat} {N : Nat → Nat} {T : Nat → Nat → Nd} {u : Value} (h : ChkOut F k N T u) : ∃ a s d : Int, u = .agg #[.int .i64 a, .int .i64 0, .int .i64 s, .int .i64 d] ∧ (a = 0 → s = 0 ∧ d = 0) := by
  rcases h with ⟨_, rfl⟩ | ⟨_, x, h, rfl⟩
  · exact ⟨1, 0, 0, rfl, fun h => by omega⟩
  · rcases h with ⟨rfl, _⟩ | ⟨r, i, e, nd, hr, hi, rfl, h1, _, _⟩
    · exact ⟨0, 0, 0, rfl, fun _ => ⟨rfl, rfl⟩⟩
    · have := rl_err h1
      exact ⟨e, (i : Int), (nd : Int), rfl, fun h => by omega⟩


set_option maxRecDepth 100000 in
set_option maxHeartbeats 4000000 in
theorem ok_at (F : Int) (v : Value) (k : Nat) (N : Nat → Nat) (T : Nat → Nat → Nd) (L : Nat) (w : World) (hv : MRow w v k N T L) (ht : Tab w) (hL : 1 ≤ L) (hLM : L ≤ 30000) :
    Calls Tryd.prog 37 #[.agg #[.int .i64 F, v]] w fun e w' => ∃ a s d : Int, e = .returned (.bool (decide (a = 0))) ∧ ChkOut F k N T (.agg #[.int .i64 a, .int .i64 0, .int .i64 s, .int .i64 d]) ∧ Below w.heap.size w w' := by
  obtain ⟨ao, c, rfl, hnc, hc63⟩ := hv.open
  have BB : Below w.heap.size w w := Below.refl _ _
  obtain ⟨Wb0, hW0, hS0, hL0, VM⟩ := V2.lay w 34 (.int .i64 F) (.slice ao k c)
  replace hv := hv.below hL0
  replace ht := ht.below hL0
  replace BB := BB.trans (hL0.mono BB.size)
  clear hL0
  go_enter Tryd.func37, Tryd.ntmps37
  obtain ⟨VM_0, VM_1, VM_2, VM_3⟩ := id VM
  rw [hW0] at VM_0 VM_1 VM_2 VM_3
  go_wp2_with fail
  clear VM_0 VM_1 VM_2 VM_3
  rw [← hW0]
  clear hW0 hS0
  refine (check_at F _ k N T L _ hv ht hL hLM).mono ?_
  rintro e w1 ⟨u, rfl, HC, b1⟩
  replace hv := hv.below b1
  replace ht := ht.below b1
  replace VM := VM.below b1
  replace BB := BB.trans (b1.mono BB.size)
  clear b1
  have HCC : Hid (ChkOut F k N T u) := HC
  obtain ⟨a, s, d, rfl, hz⟩ := HC.open
  clear HC
  by_cases ha : a = 0
  · obtain ⟨rfl, rfl⟩ := hz ha
    subst ha
    go_wp2
    go_ret
    exact ⟨0, 0, 0, rfl, HCC.out, BB⟩
  · have hab : (a == 0) = false := by simp [ha]
    have HR : Hid (decide (a = 0) = false) := decide_eq_false ha
    clear hz
    go_wp2
    go_ret
    exact ⟨a, s, d, ret_bool (a := false) HR.out.symm, HCC.out, BB⟩

theorem one_cell (w : World) (u : Value) (t : TypeId) : RowAt 1 (w.alloc (.cells #[u] t)) (.slice (some ⟨w.heap.size, 0, none⟩) 1 1) 1 (fun _ _ => u) := by
  refine ⟨_, _, rfl, Nat.le_refl _, by omega, fun _ => ⟨_, _, rfl, fun i hi j hj => ?_⟩⟩
  obtain rfl : i = 0 := by omega
  obtain rfl : j = 0 := by omega
  rw [cell_of_row _ _ _ _ _ _ (heap_alloc_new w (.cells #[u] t))]
  rfl
theorem one_tree {w : World} {v : Value} {n : Nat} {t : Nat → Nd} {L : Nat} (hv : TRow w v n t L) (ty : TypeId) : MRow (w.alloc (.cells #[v] ty)) (.slice (some ⟨w.heap.size, 0, none⟩) 1 1) 1 (fun _ => n) (fun _ => t) L :=
  ⟨_, one_cell w v ty, fun _ _ => hv.below ((Below.refl _ _).alloc (Nat.le_refl _) _)⟩
theorem one_raw {w : World} {v : Value} {n : Nat} {t : Nat → Nd} {L : Nat} (hv : TRaw w v n t L) (ty : TypeId) : MRaw (w.alloc (.cells #[v] ty)) (.slice (some ⟨w.heap.size, 0, none⟩) 1 1) 1 (fun _ => n) (fun _ => t) L :=
  ⟨_, one_cell w v ty, fun _ _ => hv.below ((Below.refl _ _).alloc (Nat.le_refl _) _)⟩

/-- May a model be? -/
noncomputable def mayB (F : Int) (k : Nat) (N : Nat → Nat) (T : Nat → Nat → Nd) : Bool := @decide (ChkOut F k N T (.agg #[.int .i64 0, .int .i64 0, .int .i64 0, .int .i64 0])) (Classical.propDecidable _)
theorem mayB_of {F : Int} {k : Nat} {N : Nat → Nat} {T : Nat → Nat → Nd} {a s d : Int} (h : ChkOut F k N T (.agg #[.int .i64 a, .int .i64 0, .int .i64 s, .int .i64 d])) : decide (a = 0) = mayB F k N T := by
  unfold mayB
  by_cases e : a = 0
  · subst e
    obtain ⟨a2, s2, d2, e2, hz⟩ := h.open
    injection e2 with e2
    simp only [Array.mk.injEq, List.cons.injEq, Value.int.injEq, true_and, and_true] at e2
    obtain ⟨e0, es, ed⟩ := e2
    obtain ⟨rfl, rfl⟩ := hz e0.symm
    subst es ed
    rw [decide_eq_true rfl]
    exact (@decide_eq_true _ (Classical.propDecidable _) h).symm
  · rw [decide_eq_false e]
    refine (@decide_eq_false _ (Classical.propDecidable _) (fun h2 => e ?_)).symm
    have := h.one h2
    injection this with this
    simp only [Array.mk.injEq, List.cons.injEq, Value.int.injEq, true_and, and_true] at this
    exact this.1
theorem mayB_may {F : Int} {k : Nat} {N : Nat → Nat} {T : Nat → Nat → Nd} (h : mayB F k N T = true) : 0 ≤ F ∧ F ≤ 64 ∧ k ≤ 64 ∧ ∀ i, i < k → MayT F (T i) (N i) := by
  unfold mayB at h
  exact (@of_decide_eq_true _ (Classical.propDecidable _) h).may
theorem ok_may (F : Int) (v : Value) (k : Nat) (N : Nat → Nat) (T : Nat → Nat → Nd) (L : Nat) (w : World) (hv : MRow w v k N T L) (ht : Tab w) (hL : 1 ≤ L) (hLM : L ≤ 30000) :
    Calls Tryd.prog 37 #[.agg #[.int .i64 F, v]] w fun e w' => e = .returned (.bool (mayB F k N T)) ∧ Below w.heap.size w w' := by
  refine (ok_at F v k N T L w hv ht hL hLM).mono ?_
  rintro e w' ⟨a, s, d, rfl, h, hb⟩
  exact ⟨by rw [mayB_of h], hb⟩

/-- What Way has found: the nodes ahead, and where it stands. -/
def WInv (t : Nat → Nd) (n : Nat) (r : Nat → Cl) (zs : List Nat) (x : Nat) : Prop := x < n ∧ ∃ pre, zs = pre ++ [x] ∧ pre ++ way t n r x = way t n r 0
theorem WInv.start {t : Nat → Nd} {n : Nat} (r : Nat → Cl) (h : 0 < n) : WInv t n r [0] 0 := ⟨h, [], rfl, rfl⟩
theorem WInv.leaf {t : Nat → Nd} {n : Nat} {r : Nat → Cl} {zs : List Nat} {x : Nat} (h : WInv t n r zs x) (hl : (t x).leaf = true) : zs = way t n r 0 := by
  obtain ⟨_, pre, e, h⟩ := h
  rw [way_leaf hl] at h
  rw [e, h]
theorem WInv.split {F : Int} {t : Nat → Nd} {n : Nat} {r : Nat → Cl} {zs : List Nat} {x : Nat} (h : WInv t n r zs x) (hm : MayT F t n) (hl : (t x).leaf = false) : WInv t n r (zs ++ [nxt (t x) r]) (nxt (t x) r) := by
  obtain ⟨hx, pre, e, h⟩ := h
  rw [hm.way_split r hx hl] at h
  refine ⟨(hm.nxt hx hl r).1, pre ++ [x], by rw [e], ?_⟩
  rw [← h, List.append_assoc]
  rfl
theorem WInv.len {F : Int} {t : Nat → Nd} {n : Nat} {r : Nat → Cl} {zs : List Nat} {x : Nat} (h : WInv t n r zs x) (hm : MayT F t n) : 1 ≤ zs.length ∧ zs.length ≤ n + 1 := by
  obtain ⟨hx, pre, e, h⟩ := h
  have h1 := hm.way_len r (x := 0) (by omega)
  rw [← h, List.length_append] at h1
  have := List.length_pos_iff.2 (way_ne t n r x)
  rw [e, List.length_append]
  simp
  omega
theorem int_app {B : Nat} {w : World} {g c k m : Nat} {zs ys : List Nat} (hz : zs.length = k) (hy : ys.length = m) (h : w.ownsRow B 3 1 (.slice (some ⟨g, 0, none⟩) (k + m) c) (k + m) (zs.map (fun x : Nat => Value.int .i64 (x : Int)) ++ ys.map (fun x : Nat => Value.int .i64 (x : Int)))) : IntOwn B w (.slice (some ⟨g, 0, none⟩) (k + m) c) (zs ++ ys) := by
  unfold IntOwn
  rw [List.length_append, List.map_append, hz, hy]
  exact h
theorem IntOwn.le {B B' : Nat} {w : World} {v : Value} {zs : List Nat} (h : IntOwn B w v zs) (hb : B' ≤ B) : IntOwn B' w v zs := by
  refine ⟨h.1, ?_⟩
  rcases h.2 with h | ⟨g, c, cur, e, h1, h2⟩
  · exact .inl h
  · exact .inr ⟨g, c, cur, e, Nat.le_trans hb h1, h2⟩

/-- An array of k numbers of which the first i are told. -/
def VArr (w : World) (g k i : Nat) (q : Nat → Rat) : Prop := ∃ el, Arr3 w g k el ∧ ∀ j, j < i → RepQ w (elv el j) (q j)
theorem VArr.below {w w' : World} {g k i : Nat} {q : Nat → Rat} (h : VArr w g k i q) (hb : Below w.heap.size w w') : VArr w' g k i q := let ⟨el, a, b⟩ := h; ⟨el, a.below hb, fun j hj => (b j hj).below hb⟩
theorem VArr.put {w : World} {g k i : Nat} {q : Nat → Rat} (h : VArr w g k i q) (hi : i < k) {p : Bool} {a b : Option Addr} {n c m d : Nat} (hr : RepQ w (.agg #[.bool p, .slice a n c, .slice b m d]) (q i)) : ∃ u0 u1 u2, w.cell? ⟨g, i * 3, none⟩ = some u0 ∧ w.cell? ⟨g, i * 3 + 1, none⟩ = some u1 ∧ w.cell? ⟨g, i * 3 + 2, none⟩ = some u2 ∧ w.frozen? ⟨g, i * 3, none⟩ = false ∧ w.frozen? ⟨g, i * 3 + 1, none⟩ = false ∧ w.frozen? ⟨g, i * 3 + 2, none⟩ = false ∧
    VArr (((w.setCell ⟨g, i * 3, none⟩ (.bool p)).setCell ⟨g, i * 3 + 1, none⟩ (.slice a n c)).setCell ⟨g, i * 3 + 2, none⟩ (.slice b m d)) g k (i + 1) q := by
  obtain ⟨el, A, R⟩ := h
  obtain ⟨A2, K2⟩ := A.set i hi (.bool p) (.slice a n c) (.slice b m d) (num_bool _) (num_slice _ _ _) (num_slice _ _ _)
  refine ⟨_, _, _, A.1 i hi 0 (by omega), A.1 i hi 1 (by omega), A.1 i hi 2 (by omega), A.2.1 i hi 0 (by omega), A.2.1 i hi 1 (by omega), A.2.1 i hi 2 (by omega), _, A2, fun j hj => ?_⟩
  by_cases e : j = i
  · subst e
    have := hr.keep K2
    simpa [elv, upd3] using this
  · have := (R j (by omega)).keep K2
    simp only [elv, upd3_other el i j _ _ _ e] at *
    exact this
theorem VArr.row {w : World} {g k : Nat} {q : Nat → Rat} (h : VArr w g k k q) (hk : k ≤ 100000) : FRow w (.slice (some ⟨g, 0, none⟩) k k) k q :=
  let ⟨el, a, b⟩ := h; ⟨el, a.row k k (Nat.le_refl _) (Nat.le_refl _) (by omega), b⟩
noncomputable def whyI (F : Int) (k : Nat) (N : Nat → Nat) (T : Nat → Nat → Nd) (nr : Nat) : Int := if mayB F k N T = true then (if (nr : Int) = F then 0 else 14) else 1
theorem whyI_no {F : Int} {k : Nat} {N : Nat → Nat} {T : Nat → Nat → Nd} {nr : Nat} (h : mayB F k N T = false) : whyI F k N T nr = 1 := by unfold whyI; rw [h]; rfl
theorem whyI_len {F : Int} {k : Nat} {N : Nat → Nat} {T : Nat → Nat → Nd} {nr : Nat} (h : mayB F k N T = true) (h2 : ¬ (nr : Int) = F) : whyI F k N T nr = 14 := by unfold whyI; rw [if_pos h, if_neg h2]
theorem whyI_yes {F : Int} {k : Nat} {N : Nat → Nat} {T : Nat → Nat → Nd} {nr : Nat} (h : mayB F k N T = true) (h2 : (nr : Int) = F) : whyI F k N T nr = 0 := by unfold whyI; rw [if_pos h, if_pos h2]
theorem leafV_sz {w : World} {v : Value} {k : Nat} {N : Nat → Nat} {T : Nat → Nat → Nd} {L : Nat} {F : Int} (h : MRow w v k N T L) (hL : 1 ≤ L) (hm : ∀ i, i < k → MayT F (T i) (N i)) (r : Nat → Cl) : ∀ i, i < k → qsz (leafV T N r i) ≤ L := by
  intro i hi
  obtain ⟨b, off, c, a, d, _, _, _, TR⟩ := h.at hi
  have hp := (hm i hi).pos
  have hw := (hm i hi).wlast_is r (x := 0) (by omega)
  obtain ⟨_, _, _, _, _, _, _, _, _, _, _, _, _, _, _, _, _, _, _, _, _, _, _, _, _, _, _, _, _, r2, _⟩ := TR.at hw.1
  exact r2.qsz hL


set_option maxRecDepth 20000 in
set_option maxHeartbeats 2000000 in
theorem rlength_at (F : Int) (a ar : Option Addr) (k c nr cr : Nat) (w : World) :
    Calls Tryd.prog 38 #[.agg #[.int .i64 F, .slice a k c], .slice ar nr cr] w fun e w' => e = .returned (.int .i64 (if (nr : Int) = F then 0 else 14)) ∧ Below w.heap.size w w' := by
  have hA : Below w.heap.size w (w.alloc (.cells #[.int .i64 F, .slice a k c] 34)) := (Below.refl _ _).alloc (Nat.le_refl _) _
  by_cases h : (nr : Int) = F
  · rw [if_pos h]
    have g2 : ((nr : Int) != F) = false := by simpa using h
    have g3 : decide ((nr : Int) = F) = true := decide_eq_true h
    go_enter Tryd.func38, Tryd.ntmps38
    go_wp2
    go_ret
    exact ⟨rfl, hA⟩
  · rw [if_neg h]
    have g2 : ((nr : Int) != F) = true := by simpa using h
    have g3 : decide ((nr : Int) = F) = false := decide_eq_false h
    go_enter Tryd.func38, Tryd.ntmps38
    go_wp2
    go_ret
    exact ⟨rfl, hA⟩


set_option maxRecDepth 100000 in
set_option maxHeartbeats 4000000 in
theorem rfits_at (F : Int) (vm vr : Value) (k nr : Nat) (N : Nat → Nat) (T : Nat → Nat → Nd) (r : Nat → Cl) (L : Nat) (w : World) (hM : MRow w vm k N T L) (hR : CRow w vr nr r L) (hT : Tab w) (hL : 1 ≤ L) (hLM : L ≤ 30000) :
    Calls Tryd.prog 21 #[.agg #[.int .i64 F, vm], vr] w fun e w' => e = .returned (.int .i64 (whyI F k N T nr)) ∧ Below w.heap.size w w' := by
  obtain ⟨ao, c, rfl, hnc, hc63⟩ := hM.open
  obtain ⟨ar, cr, rfl, hrc, hr63⟩ := hR.open
  obtain ⟨W0, hW0, hS0, hL0, VM⟩ := V2.lay w 34 (.int .i64 F) (.slice ao k c)
  have BB : Below w.heap.size w W0 := hL0
  have hM1 := hM.below hL0
  have hT1 := hT.below hL0
  clear hL0
  go_enter Tryd.func21, Tryd.ntmps21
  obtain ⟨VM_0, VM_1, VM_2, VM_3⟩ := id VM
  rw [hW0] at VM_0 VM_1 VM_2 VM_3
  go_wp2_with fail
  clear VM_0 VM_1 VM_2 VM_3
  rw [← hW0]
  clear hW0 hS0
  refine (ok_may F _ k N T L _ hM1 hT1 hL hLM).mono ?_
  rintro e w1 ⟨rfl, b1⟩
  replace VM := VM.below b1
  replace BB := BB.trans (b1.mono BB.size)
  clear b1 hM1 hT1
  obtain ⟨VM_0, VM_1, VM_2, VM_3⟩ := id VM
  obtain ⟨mb, hmb⟩ : ∃ mb, mayB F k N T = mb := ⟨_, rfl⟩
  rw [hmb]
  have HB : Hid (mayB F k N T = mb) := hmb
  clear hmb
  cases mb
  · go_wp2
    go_ret
    exact ⟨by rw [whyI_no HB.out]; rfl, BB⟩
  · go_wp2_with fail
    refine (rlength_at F _ _ k c nr cr _).mono ?_
    rintro e w2 ⟨rfl, b2⟩
    replace BB := BB.trans (b2.mono BB.size)
    clear b2
    have HW : Hid (whyI F k N T nr = if (nr : Int) = F then 0 else 14) := by show whyI _ _ _ _ _ = _; unfold whyI; rw [if_pos HB.out]
    generalize (if (nr : Int) = F then (0 : Int) else 14) = x at *
    go_wp2
    go_ret
    exact ⟨by rw [HW.out]; rfl, BB⟩


set_option maxRecDepth 100000 in
set_option maxHeartbeats 16000000 in
theorem rvalues_at (F : Int) (vm vr : Value) (k nr : Nat) (N : Nat → Nat) (T : Nat → Nat → Nd) (r : Nat → Cl) (L : Nat) (w : World) (hM : MRow w vm k N T L) (hR : CRow w vr nr r L) (hT : Tab w) (hL : 1 ≤ L) (hLM : L ≤ 30000) (hk : k ≤ 1000) (hm : ∀ i, i < k → MayT (nr : Int) (T i) (N i)) :
    Calls Tryd.prog 23 #[.agg #[.int .i64 F, vm], vr] w fun e w' => ∃ u, e = .returned u ∧ FRow w' u k (leafV T N r) ∧ Below w.heap.size w w' := by
  obtain ⟨ao, c, rfl, hnc, hc63⟩ := hM.open
  obtain ⟨ar, cr, rfl, hrc, hr63⟩ := hR.open
  obtain ⟨i0, hi, hz0, hz1, hz2⟩ := info_parts info_wrat
  obtain ⟨W0, hW0, hS0, hL0, VM⟩ := V2.lay w 34 (.int .i64 F) (.slice ao k c)
  have BB : Below w.heap.size w W0 := hL0
  clear hL0
  have HM0 : Hid (MRow w (.slice ao k c) k N T L) := hM
  have HR0 : Hid (CRow w (.slice ar nr cr) nr r L) := hR
  have HT0 : Hid (Tab w) := hT
  have HMY : Hid (∀ i, i < k → MayT (nr : Int) (T i) (N i)) := hm
  clear hM hR hT hm
  go_enter Tryd.func23, Tryd.ntmps23
  obtain ⟨VM_0, VM_1, VM_2, VM_3⟩ := id VM
  rw [hW0] at VM_0 VM_1 VM_2 VM_3
  have hGB : w.heap.size ≤ w.heap.size + 1 := by omega
  go_wp2_with (at_make; refine wpList_make_full _ rfl _ _ 57 rfl _ 27 i0 (.agg #[.bool false, .slice none 0 0, .slice none 0 0]) 3 Tryd.underlying57 hi hz0 hz1 _ _ _ _ k rfl rfl (by omega) (by omega) (by rw [hz2]; omega) (by unfold maxLen; omega) (Nat.le_refl _) ?_; intro w1 hown hgrow; rw [← hW0] at hown hgrow; have hb1 := below_grown hgrow; have A1 := arr3_made hown; have BB1 := BB.trans (hb1.mono BB.size); obtain ⟨q1, q2, q3, q4⟩ := VM.below hb1; clear VM_0 VM_1 VM_2 VM_3)
  rw [hS0] at A1
  have VA : VArr w1 (w.heap.size + 1) k 0 (leafV T N r) := ⟨_, A1, fun j hj => absurd hj (Nat.not_lt_zero _)⟩
  clear q1 q2 q3 q4 hown hgrow hb1 A1 VM BB hi hz0 hz1 hz2 hW0 hS0
  generalize w.heap.size + 1 = G at *
  go_loopw [16] (fun vi wr => ∃ i : Nat, i ≤ k ∧ vi = .int .i64 (i : Int) ∧ VArr wr G k i (leafV T N r) ∧ Below w.heap.size w wr) (fun vi _ => k - (intOf vi).toNat)
  case atStart => exact ⟨0, by omega, rfl, VA, BB1⟩
  case round =>
    clear VA BB1
    obtain ⟨i, hi, rfl, VA, BB⟩ := hrel
    by_cases hlt : i < k
    · have g1 : (i : Int) < (k : Int) := by omega
      have g0 : (0 : Int) ≤ (i : Int) := by omega
      obtain ⟨b, off, cc, a, d, hvv, hcc, XC0, TR0⟩ := HM0.out.at hlt
      cases hvv
      have XC : wr.cell? ⟨b, off + i, none⟩ = some (.slice a (N i) d) := (BB.cell (p := ⟨b, off + i, none⟩) (World.block_lt_of_cell? _ _ XC0)).trans XC0
      have HMT : Hid (MayT (nr : Int) (T i) (N i)) := HMY.out i hlt
      have HTR : Hid (TRow w (.slice a (N i) d) (N i) (T i) L) := TR0
      have HLV : Hid (leafV T N r i = (T i (wlast (T i) (N i) r 0)).val) := rfl
      have HN1 : Hid (0 < N i) := HMT.out.pos
      generalize N i = n at *
      generalize T i = t at *
      clear XC0 TR0
      go_wp2
      clear XC
      go_loopw [8] (fun va w2 => ∃ x : Nat, va = .int .i64 (x : Int) ∧ x < n ∧ Hid (wlast t n r x = wlast t n r 0) ∧ VArr w2 G k i (leafV T N r) ∧ Below w.heap.size w w2) (fun va _ => n + 1 - lvl t n (intOf va).toNat)
      case atStart => exact ⟨0, rfl, HN1.out, rfl, VA, BB⟩
      case round =>
        clear VA BB
        obtain ⟨x, rfl, hx, HWL, VA, BB⟩ := hrel
        have f0 : (0 : Int) ≤ (x : Int) := by omega
        have f1 : (x : Int) < (n : Int) := by omega
        obtain ⟨b9, off9, cc9, p1, a1, n1, c1, b1, m1, d1, p2, a2, n2, c2, b2, m2, d2, p3, a3, n3, c3, b3, m3, d3, hvv, hcc9, hc6, NN, r1, r2, r3, i1, i2, i3⟩ := (HTR.out.below BB).at hx
        cases hvv
        obtain ⟨lf, hlf⟩ : ∃ z, (t x).leaf = z := ⟨_, rfl⟩
        cases lf
        · have HNM := HMT.out.named x hx hlf
          have HF := HMT.out.feat x hx hlf
          have hrw := HR0.out.below BB
          have HW2 : Hid (wlast t n r (nxt (t x) r) = wlast t n r 0) := by
            show wlast _ _ _ _ = _
            rw [← HMT.out.wlast_split r hx hlf]
            exact HWL.out
          have HLV2 : Hid (lvl t n (nxt (t x) r) = lvl t n x + 1) := (HMT.out.nxt hx hlf r).2
          have hnx : nxt (t x) r < n := (HMT.out.nxt hx hlf r).1
          have HLX : Hid (lvl t n x ≤ n) := HMT.out.lvl_le hx
          have HCH : Hid (∀ w', RatAt w' (.agg #[.bool p1, .slice a1 n1 c1, .slice b1 m1 d1]) (t x).cut L → CRow w' (.slice ar nr cr) nr r L → Calls Tryd.prog 41 #[.agg #[.bool false, .int .i64 (t x).feat, .bool p1, .slice a1 n1 c1, .slice b1 m1 d1, .int .i64 (t x).left, .int .i64 (t x).right, .bool (t x).miss, .bool p2, .slice a2 n2 c2, .slice b2 m2 d2, .bool p3, .slice a3 n3 c3, .slice b3 m3 d3], .slice ar nr cr] w' fun e w'' => e = .returned (.int .i64 (nxt (t x) r : Int)) ∧ Below w'.heap.size w' w'') := fun w' h1 h2 => by
            have := child_at (t x) r _ nr p1 p2 p3 a1 b1 a2 b2 a3 b3 n1 c1 m1 d1 n2 c2 m2 d2 n3 c3 m3 d3 L w' h1 h2 HF (by omega) (by omega) hL (by omega)
            rw [hlf] at this
            exact this
          rw [hlf] at NN
          clear hlf HNM HF HWL
          obtain ⟨N_0, N_1, N_2, N_3, N_4, N_5, N_6, N_7, N_8, N_9, N_10, N_11, N_12, N_13⟩ := NN
          go_wp2_with fail
          refine (HCH.out _ r1 hrw).mono ?_
          rintro e w2 ⟨rfl, b9⟩
          replace VA := VA.below b9
          replace BB := BB.trans (b9.mono BB.size)
          clear N_0 N_1 N_2 N_3 N_4 N_5 N_6 N_7 N_8 N_9 N_10 N_11 N_12 N_13 HCH hrw r1 r2 r3 i1 i2 i3 b9
          generalize nxt (t x) r = y at *
          go_wp2
          go_roundw
          case rel => exact ⟨y, rfl, hnx, HW2, VA, BB⟩
          case measure =>
            have h1 := HLV2.out
            have h2 := HLX.out
            simp [intOf]
            omega
        · have HV : Hid (leafV T N r i = (t x).val) := by
            show leafV _ _ _ _ = _
            rw [HLV.out, ← HWL.out, wlast_leaf hlf]
          rw [hlf] at NN
          have ht := HT0.out.below BB
          clear hlf HWL r1 r3 i1 i2 i3
          obtain ⟨N_0, N_1, N_2, N_3, N_4, N_5, N_6, N_7, N_8, N_9, N_10, N_11, N_12, N_13⟩ := NN
          go_wp2_with fail
          refine (qclean_at _ (t x).val L _ r2 hL (by omega) ht).mono ?_
          rintro e w3 ⟨u, rfl, hq, b9⟩
          replace VA := VA.below b9
          replace BB := BB.trans (b9.mono BB.size)
          obtain ⟨p5, a5, n5, c5, b5, m5, d5, rfl⟩ := hq.open
          rw [← HV.out] at hq
          clear N_0 N_1 N_2 N_3 N_4 N_5 N_6 N_7 N_8 N_9 N_10 N_11 N_12 N_13 r2 ht b9 HV
          obtain ⟨u0, u1, u2, x0, x1, x2, y0, y1, y2, VA2⟩ := VA.put hlt hq
          have BB2 : Below w.heap.size w (((w3.setCell ⟨G, i * 3, none⟩ (.bool p5)).setCell ⟨G, i * 3 + 1, none⟩ (.slice a5 n5 c5)).setCell ⟨G, i * 3 + 2, none⟩ (.slice b5 m5 d5)) := ((BB.setCell hGB _).setCell hGB _).setCell hGB _
          go_wp2
          go_roundw
          case rel => exact ⟨i + 1, by omega, by go_num, VA2, BB2⟩
          case measure => simp [intOf]; omega
    · obtain rfl : i = k := by omega
      have g1 : ¬ (i : Int) < (i : Int) := by omega
      go_wp2
      go_ret
      exact ⟨_, rfl, VA.row (by omega), BB⟩

set_option maxRecDepth 100000 in
set_option maxHeartbeats 4000000 in
theorem rpredict_no (F : Int) (vm vr : Value) (k nr : Nat) (N : Nat → Nat) (T : Nat → Nat → Nd) (r : Nat → Cl) (L : Nat) (w : World) (hM : MRow w vm k N T L) (hR : CRow w vr nr r L) (hT : Tab w) (hL : 1 ≤ L) (hLM : L ≤ 30000) (hw : whyI F k N T nr ≠ 0) :
    Calls Tryd.prog 13 #[.agg #[.int .i64 F, vm], vr] w fun e w' => e = .returned (.tuple #[.agg #[.bool false, .slice none 0 0, .slice none 0 0], .int .i64 (whyI F k N T nr)]) ∧ Below w.heap.size w w' := by
  obtain ⟨ao, c, rfl, hnc, hc63⟩ := hM.open
  obtain ⟨ar, cr, rfl, hrc, hr63⟩ := hR.open
  obtain ⟨W0, hW0, hS0, hL0, VM⟩ := V2.lay w 34 (.int .i64 F) (.slice ao k c)
  have BB : Below w.heap.size w W0 := hL0
  obtain ⟨W1, hW1, hS1, hL1, VR⟩ := V3.lay W0 27 (.bool false) (.slice none 0 0) (.slice none 0 0)
  rw [hS0] at VR
  replace VM := VM.below hL1
  replace BB := BB.trans (hL1.mono BB.size)
  have hM1 := (hM.below hL0).below hL1
  have hR1 := (hR.below hL0).below hL1
  have hT1 := (hT.below hL0).below hL1
  clear hL0 hL1
  go_enter Tryd.func13, Tryd.ntmps13
  obtain ⟨VM_0, VM_1, VM_2, VM_3⟩ := id VM
  rw [hW1, hW0] at VM_0 VM_1 VM_2 VM_3
  go_wp2_with fail
  clear VM_0 VM_1 VM_2 VM_3
  rw [← hW0, ← hW1]
  clear hW0 hW1 hS0 hS1
  refine (rfits_at F _ _ k nr N T r L _ hM1 hR1 hT1 hL hLM).mono ?_
  rintro e w1 ⟨rfl, b1⟩
  replace VM := VM.below b1
  replace VR := VR.below b1
  replace hM1 := hM1.below b1
  replace hR1 := hR1.below b1
  replace hT1 := hT1.below b1
  replace BB := BB.trans (b1.mono BB.size)
  clear b1
  obtain ⟨VM_0, VM_1, VM_2, VM_3⟩ := id VM
  obtain ⟨e1, he1⟩ : ∃ e1, whyI F k N T nr = e1 := ⟨_, rfl⟩
  have HE : Hid (whyI F k N T nr = e1) := he1
  rw [he1] at hw
  rw [he1]
  clear he1
  have g2 : (e1 != 0) = true := by simpa using hw
  have g3 : decide (e1 = 0) = false := decide_eq_false hw
  obtain ⟨z1, z2, z3, z4, z5, z6⟩ := id VR
  have BB_n := below_store3 (R := w.heap.size + 1) BB (by omega) (.bool false) (.slice none 0 0) (.slice none 0 0)
  go_wp2
  (try simp only [Exit.inBlock, Exit.then])
  refine bodyPost_ret (v := .tuple #[.agg #[.bool false, .slice none 0 0, .slice none 0 0], .int .i64 e1]) (by simp [results, go_sem, z1, z2, z3]) rfl ?_
  exact ⟨by rw [HE.out], BB_n⟩


set_option maxRecDepth 100000 in
set_option maxHeartbeats 4000000 in
theorem rpredict_yes (F : Int) (vm vr : Value) (k nr : Nat) (N : Nat → Nat) (T : Nat → Nat → Nd) (r : Nat → Cl) (L : Nat) (w : World) (hM : MRow w vm k N T L) (hR : CRow w vr nr r L) (hT : Tab w) (hL : 1 ≤ L) (hLM : L ≤ 30000) (hw : whyI F k N T nr = 0) (hk : k ≤ 1000) (hm : ∀ i, i < k → MayT (nr : Int) (T i) (N i)) (hMX : k * (L + 1) + L ≤ 100000) :
    Calls Tryd.prog 13 #[.agg #[.int .i64 F, vm], vr] w fun e w' => ∃ x, e = .returned (.tuple #[x, .int .i64 0]) ∧ RepQ w' x (sumq (leafV T N r) k) ∧ Below w.heap.size w w' := by
  obtain ⟨ao, c, rfl, hnc, hc63⟩ := hM.open
  obtain ⟨ar, cr, rfl, hrc, hr63⟩ := hR.open
  obtain ⟨W0, hW0, hS0, hL0, VM⟩ := V2.lay w 34 (.int .i64 F) (.slice ao k c)
  have BB : Below w.heap.size w W0 := hL0
  obtain ⟨W1, hW1, hS1, hL1, VR⟩ := V3.lay W0 27 (.bool false) (.slice none 0 0) (.slice none 0 0)
  rw [hS0] at VR
  replace VM := VM.below hL1
  replace BB := BB.trans (hL1.mono BB.size)
  have hM1 := (hM.below hL0).below hL1
  have hR1 := (hR.below hL0).below hL1
  have hT1 := (hT.below hL0).below hL1
  clear hL0 hL1
  go_enter Tryd.func13, Tryd.ntmps13
  obtain ⟨VM_0, VM_1, VM_2, VM_3⟩ := id VM
  rw [hW1, hW0] at VM_0 VM_1 VM_2 VM_3
  go_wp2_with fail
  clear VM_0 VM_1 VM_2 VM_3
  rw [← hW0, ← hW1]
  clear hW0 hW1 hS0 hS1
  refine (rfits_at F _ _ k nr N T r L _ hM1 hR1 hT1 hL hLM).mono ?_
  rintro e w1 ⟨rfl, b1⟩
  replace VM := VM.below b1
  replace VR := VR.below b1
  replace hM1 := hM1.below b1
  replace hR1 := hR1.below b1
  replace hT1 := hT1.below b1
  replace BB := BB.trans (b1.mono BB.size)
  clear b1
  obtain ⟨VM_0, VM_1, VM_2, VM_3⟩ := id VM
  rw [hw]
  go_wp2_with fail
  clear VM_0 VM_1 VM_2 VM_3
  refine (rvalues_at F _ _ k nr N T r L _ hM1 hR1 hT1 hL hLM hk hm).mono ?_
  rintro e w2 ⟨u, rfl, hF, b2⟩
  replace VM := VM.below b2
  replace VR := VR.below b2
  replace hT1 := hT1.below b2
  replace BB := BB.trans (b2.mono BB.size)
  clear b2
  have hq := hF.q L (leafV_sz hM hL hm r)
  obtain ⟨au, cu, rfl⟩ := hF.open
  go_wp2_with fail
  refine (qsum_any L (k * (L + 1) + L) hL (by omega) hMX k _ _ _ hq hT1 (by omega)).mono ?_
  rintro e w3 ⟨s, rfl, hs, b3⟩
  replace VR := VR.below b3
  replace BB := BB.trans (b3.mono BB.size)
  clear b3
  obtain ⟨p5, a5, n5, c5, b5, m5, d5, rfl⟩ := hs.open
  have hKp := VR.keepJ (.bool p5) (.slice a5 n5 c5) (.slice b5 m5 d5)
  have hs_n := hs.keep hKp
  have BB_n := below_store3 (R := w.heap.size + 1) BB (by omega) (.bool p5) (.slice a5 n5 c5) (.slice b5 m5 d5)
  obtain ⟨z1, z2, z3, z4, z5, z6⟩ := id VR
  clear hKp
  go_wp2
  (try simp only [Exit.inBlock, Exit.then])
  refine bodyPost_ret (v := .tuple #[.agg #[.bool p5, .slice a5 n5 c5, .slice b5 m5 d5], .int .i64 0]) (by simp [results, go_sem, z1, z2, z3]) rfl ?_
  exact ⟨_, rfl, hs_n, BB_n⟩

def exT (_ : Nat) (i : Nat) : Nd := if i = 0 then ⟨false, 0, 0, 1, 1, false, 0, 1⟩ else ⟨true, 0, 0, 0, 0, false, 0, 1⟩
theorem ex_chk {u : Value} (h : ChkOut 1 1 (fun _ => 2) exT u) : u = .agg #[.int .i64 11, .int .i64 0, .int .i64 0, .int .i64 1] := by
  refine h.one (.inr ⟨by decide +kernel, some (11, 0, 1), .inr ⟨1, 0, 11, 1, by omega, by omega, rfl, by decide +kernel, fun r hr i hi => ?_, fun i hi => by omega⟩, rfl⟩)
  obtain rfl : r = 0 := by omega
  obtain rfl : i = 0 := by omega
  decide +kernel
theorem none_chk {N : Nat → Nat} {T : Nat → Nat → Nd} {u : Value} (h : ChkOut 0 0 N T u) : u = .agg #[.int .i64 0, .int .i64 0, .int .i64 0, .int .i64 0] := by
  refine h.one (.inr ⟨rfl, none, .inl ⟨rfl, fun r hr i hi => by omega⟩, rfl⟩)
theorem zero_atn (w : World) : AtN w (.bool false) (.slice none 0 0) (.slice none 0 0) 0 4 := by
  have h := RatAt.raw (p := false) (K := 4) (Nums.nil .u64 w (fun _ => 0)) (fun i hi => by omega) (Nums.nil .u64 w (fun _ => 0)) (fun i hi => by omega) (by omega) (by omega)
  exact ⟨false, none, 0, 0, none, 0, 0, rfl, rfl, rfl, h⟩
theorem ex_lay (w : World) {p : Bool} {a : Option Addr} {n c : Nat} {b : Option Addr} {m d : Nat} (h1 : RepQ w (.agg #[.bool p, .slice a n c, .slice b m d]) 1) :
    ∃ W, W = (w.alloc (.cells #[.bool false, .int .i64 0, .bool false, .slice none 0 0, .slice none 0 0, .int .i64 1, .int .i64 1, .bool false, .bool false, .slice none 0 0, .slice none 0 0, .bool p, .slice a n c, .slice b m d, .bool true, .int .i64 0, .bool false, .slice none 0 0, .slice none 0 0, .int .i64 0, .int .i64 0, .bool false, .bool false, .slice none 0 0, .slice none 0 0, .bool p, .slice a n c, .slice b m d] 29)).alloc (.cells #[.slice (some ⟨w.heap.size, 0, none⟩) 2 2] 36) ∧ Below w.heap.size w W ∧ W.heap.size = w.heap.size + 2 ∧ MRow W (.slice (some ⟨w.heap.size + 1, 0, none⟩) 1 1) 1 (fun _ => 2) exT 4 := by
  obtain ⟨W1, hW1⟩ : ∃ W1, W1 = w.alloc (.cells #[.bool false, .int .i64 0, .bool false, .slice none 0 0, .slice none 0 0, .int .i64 1, .int .i64 1, .bool false, .bool false, .slice none 0 0, .slice none 0 0, .bool p, .slice a n c, .slice b m d, .bool true, .int .i64 0, .bool false, .slice none 0 0, .slice none 0 0, .int .i64 0, .int .i64 0, .bool false, .bool false, .slice none 0 0, .slice none 0 0, .bool p, .slice a n c, .slice b m d] 29) := ⟨_, rfl⟩
  have hb1 := heap_alloc_new w (.cells #[.bool false, .int .i64 0, .bool false, .slice none 0 0, .slice none 0 0, .int .i64 1, .int .i64 1, .bool false, .bool false, .slice none 0 0, .slice none 0 0, .bool p, .slice a n c, .slice b m d, .bool true, .int .i64 0, .bool false, .slice none 0 0, .slice none 0 0, .int .i64 0, .int .i64 0, .bool false, .bool false, .slice none 0 0, .slice none 0 0, .bool p, .slice a n c, .slice b m d] 29)
  rw [← hW1] at hb1
  have B1 : Below w.heap.size w W1 := by rw [hW1]; exact (Below.refl _ _).alloc (Nat.le_refl _) _
  have S1 : W1.heap.size = w.heap.size + 1 := by rw [hW1]; simp
  have B2 : Below W1.heap.size W1 (W1.alloc (.cells #[.slice (some ⟨w.heap.size, 0, none⟩) 2 2] 36)) := (Below.refl _ _).alloc (Nat.le_refl _) _
  have hb2 := heap_alloc_new W1 (.cells #[.slice (some ⟨w.heap.size, 0, none⟩) 2 2] 36)
  rw [S1] at hb2
  have q1 : RatAt W1 (.agg #[.bool p, .slice a n c, .slice b m d]) 1 4 := (h1.below B1).at 4 (by decide +kernel)
  have z64 : I64 0 := by unfold I64; omega
  have o64 : I64 1 := by unfold I64; omega
  have TR : TRow W1 (.slice (some ⟨w.heap.size, 0, none⟩) 2 2) 2 (exT 0) 4 := by
    refine ⟨fun i j => if i = 0 then [.bool false, .int .i64 0, .bool false, .slice none 0 0, .slice none 0 0, .int .i64 1, .int .i64 1, .bool false, .bool false, .slice none 0 0, .slice none 0 0, .bool p, .slice a n c, .slice b m d].getD j undef else [.bool true, .int .i64 0, .bool false, .slice none 0 0, .slice none 0 0, .int .i64 0, .int .i64 0, .bool false, .bool false, .slice none 0 0, .slice none 0 0, .bool p, .slice a n c, .slice b m d].getD j undef, ⟨_, _, rfl, by omega, by omega, fun _ => ⟨_, _, rfl, fun i hi j hj => ?_⟩⟩, fun i hi => ?_⟩
    · rw [cell_of_row _ _ _ _ _ _ hb1]
      rcases (by omega : i = 0 ∨ i = 1) with rfl | rfl <;> rcases (by omega : j = 0 ∨ j = 1 ∨ j = 2 ∨ j = 3 ∨ j = 4 ∨ j = 5 ∨ j = 6 ∨ j = 7 ∨ j = 8 ∨ j = 9 ∨ j = 10 ∨ j = 11 ∨ j = 12 ∨ j = 13) with rfl | rfl | rfl | rfl | rfl | rfl | rfl | rfl | rfl | rfl | rfl | rfl | rfl | rfl <;> rfl
    · rcases (by omega : i = 0 ∨ i = 1) with rfl | rfl
      · exact ⟨rfl, rfl, zero_atn _, rfl, rfl, rfl, zero_atn _, ⟨p, a, n, c, b, m, d, rfl, rfl, rfl, q1⟩, z64, o64, o64⟩
      · exact ⟨rfl, rfl, zero_atn _, rfl, rfl, rfl, zero_atn _, ⟨p, a, n, c, b, m, d, rfl, rfl, rfl, q1⟩, z64, z64, z64⟩
  refine ⟨_, rfl, ?_, ?_, ?_⟩
  · rw [← hW1]; exact B1.trans (B2.mono B1.size)
  · simp
  · rw [← hW1]
    refine ⟨fun _ _ => .slice (some ⟨w.heap.size, 0, none⟩) 2 2, ⟨_, _, rfl, by omega, by omega, fun _ => ⟨_, _, rfl, fun i hi j hj => ?_⟩⟩, fun i hi => ?_⟩
    · rw [cell_of_row _ _ _ _ _ _ hb2]
      obtain rfl : i = 0 := by omega
      obtain rfl : j = 0 := by omega
      rfl
    · obtain rfl : i = 0 := by omega
      exact TR.below B2


end Go.Proofs.YtnnnkajomljdgaaDoor

namespace Go.Proofs.YtnnnkajomljdgaaDoor
open Go.ChangeShapes Go.WideShapes Go.ChangeAt Go.RowKit
set_option linter.unusedVariables false
set_option linter.unusedSimpArgs false

def NodeV (w : World) (v : Value) (d : Nd) (K : Nat) : Prop := ∃ x0 x1 x2 x3 x4 x5 x6 x7 x8 x9 x10 x11 x12 x13, v = .agg #[x0, x1, x2, x3, x4, x5, x6, x7, x8, x9, x10, x11, x12, x13] ∧ NodeRaw w (fun j => [x0, x1, x2, x3, x4, x5, x6, x7, x8, x9, x10, x11, x12, x13].getD j undef) d K
set_option maxRecDepth 100000 in
theorem open_node {H : Type} {enc : TypeId × Value → H} {W : World} {base b0 : Nat} {r : Reach} {v : Value} {d : DataW H} {ps : List MemPlace} (K : Nat)
    (hval : Value.okWide Tryd.prog W r b0 29 v) (h : DataW.Trod enc Tryd.prog W base (fun _ => true) true 29 v d ps) : ∃ x, NodeV W v x K := by
  obtain ⟨cs, rfl, hsz⟩ := okWide_struct Tryd.underlying29 hval
  rw [cells_node] at hsz
  obtain ⟨l⟩ := cs
  obtain ⟨x0, x1, x2, x3, x4, x5, x6, x7, x8, x9, x10, x11, x12, x13, rfl⟩ := cells14 (l := l) hsz
  obtain ⟨fuel, hf⟩ := h
  obtain ⟨d, hd⟩ := trod_node K hf
  exact ⟨d, x0, x1, x2, x3, x4, x5, x6, x7, x8, x9, x10, x11, x12, x13, rfl, hd⟩
theorem NodeV.open {w : World} {v : Value} {d : Nd} {K : Nat} (h : NodeV w v d K) : ∃ p1 a1 n1 c1 b1 m1 d1 p2 a2 n2 c2 b2 m2 d2 p3 a3 n3 c3 b3 m3 d3, v = .agg #[.bool d.leaf, .int .i64 d.feat, .bool p1, .slice a1 n1 c1, .slice b1 m1 d1, .int .i64 d.left, .int .i64 d.right, .bool d.miss, .bool p2, .slice a2 n2 c2, .slice b2 m2 d2, .bool p3, .slice a3 n3 c3, .slice b3 m3 d3] ∧ NodeRaw w (fun j => [.bool d.leaf, .int .i64 d.feat, .bool p1, .slice a1 n1 c1, .slice b1 m1 d1, .int .i64 d.left, .int .i64 d.right, .bool d.miss, .bool p2, .slice a2 n2 c2, .slice b2 m2 d2, .bool p3, .slice a3 n3 c3, .slice b3 m3 d3].getD j undef) d K := by
  obtain ⟨x0, x1, x2, x3, x4, x5, x6, x7, x8, x9, x10, x11, x12, x13, rfl, hN⟩ := h
  obtain ⟨e0, e1, ⟨p1, a1, n1, c1, b1, m1, d1, f1, g1, e2, e3, e4, s1⟩, e5, e6, e7, ⟨p2, a2, n2, c2, b2, m2, d2, f2, g2, e8, e9, e10, s2⟩, ⟨p3, a3, n3, c3, b3, m3, d3, f3, g3, e11, e12, e13, s3⟩, i1, i2, i3⟩ := id hN
  have e0 : x0 = .bool d.leaf := e0
  have e1 : x1 = .int .i64 d.feat := e1
  have e2 : x2 = .bool p1 := e2
  have e3 : x3 = .slice a1 n1 c1 := e3
  have e4 : x4 = .slice b1 m1 d1 := e4
  have e5 : x5 = .int .i64 d.left := e5
  have e6 : x6 = .int .i64 d.right := e6
  have e7 : x7 = .bool d.miss := e7
  have e8 : x8 = .bool p2 := e8
  have e9 : x9 = .slice a2 n2 c2 := e9
  have e10 : x10 = .slice b2 m2 d2 := e10
  have e11 : x11 = .bool p3 := e11
  have e12 : x12 = .slice a3 n3 c3 := e12
  have e13 : x13 = .slice b3 m3 d3 := e13
  subst e0 e1 e2 e3 e4 e5 e6 e7 e8 e9 e10 e11 e12 e13
  exact ⟨p1, a1, n1, c1, b1, m1, d1, p2, a2, n2, c2, b2, m2, d2, p3, a3, n3, c3, b3, m3, d3, rfl, hN⟩
theorem one_row {w : World} (cs : Array Value) (ty : TypeId) {k : Nat} (hk : cs.size = k) : RowAt k (w.alloc (.cells cs ty)) (.slice (some ⟨w.heap.size, 0, none⟩) 1 1) 1 (fun _ j => cs.toList.getD j undef) := by
  refine ⟨_, _, rfl, Nat.le_refl _, by omega, fun _ => ⟨_, _, rfl, fun i hi j hj => ?_⟩⟩
  obtain rfl : i = 0 := by omega
  rw [cell_of_row _ _ _ _ _ _ (heap_alloc_new w (.cells cs ty))]
  rw [show 0 + 0 * k + j = j by omega]
  show _ = some (cs.toList.getD j undef)
  rw [Array.getElem?_eq_getElem (by omega), List.getD_eq_getElem?_getD, List.getElem?_eq_getElem (by simp; omega)]
  simp
theorem one_node {w : World} {x0 x1 x2 x3 x4 x5 x6 x7 x8 x9 x10 x11 x12 x13 : Value} {d : Nd} {K : Nat} (h : NodeRaw w (fun j => [x0, x1, x2, x3, x4, x5, x6, x7, x8, x9, x10, x11, x12, x13].getD j undef) d K) (ty : TypeId) :
    TRaw (w.alloc (.cells #[x0, x1, x2, x3, x4, x5, x6, x7, x8, x9, x10, x11, x12, x13] ty)) (.slice (some ⟨w.heap.size, 0, none⟩) 1 1) 1 (fun _ => d) K :=
  ⟨_, one_row #[x0, x1, x2, x3, x4, x5, x6, x7, x8, x9, x10, x11, x12, x13] ty rfl, fun i _ => h.below ((Below.refl _ _).alloc (Nat.le_refl _) _)⟩
theorem one_entry {w : World} {ms p : Bool} {ao bo : Option Addr} {n c m d : Nat} {f g : Nat → Int} (h1 : Raw w (.slice ao n c) n f) (h2 : Raw w (.slice bo m d) m g) (K : Nat) (ty : TypeId) :
    CRaw (w.alloc (.cells #[.bool ms, .bool p, .slice ao n c, .slice bo m d] ty)) (.slice (some ⟨w.heap.size, 0, none⟩) 1 1) 1 (fun _ => ⟨ms, mkRat (zof p (num f (min n K))) (num g (min m K))⟩) K :=
  ⟨_, one_row #[.bool ms, .bool p, .slice ao n c, .slice bo m d] ty rfl, fun i _ => ⟨rfl, p, ao, n, c, bo, m, d, f, g, rfl, rfl, rfl, h1.below ((Below.refl _ _).alloc (Nat.le_refl _) _), h2.below ((Below.refl _ _).alloc (Nat.le_refl _) _), rfl⟩⟩

theorem V14.put {w : World} {R : Nat} {x0 x1 x2 x3 x4 x5 x6 x7 x8 x9 x10 x11 x12 x13 : Value} (h : V14 w R x0 x1 x2 x3 x4 x5 x6 x7 x8 x9 x10 x11 x12 x13) (u0 u1 u2 u3 u4 u5 u6 u7 u8 u9 u10 u11 u12 u13 : Value) : V14 ((((((((((((((w.setCell ⟨R, 0, none⟩ u0).setCell ⟨R, 1, none⟩ u1).setCell ⟨R, 2, none⟩ u2).setCell ⟨R, 3, none⟩ u3).setCell ⟨R, 4, none⟩ u4).setCell ⟨R, 5, none⟩ u5).setCell ⟨R, 6, none⟩ u6).setCell ⟨R, 7, none⟩ u7).setCell ⟨R, 8, none⟩ u8).setCell ⟨R, 9, none⟩ u9).setCell ⟨R, 10, none⟩ u10).setCell ⟨R, 11, none⟩ u11).setCell ⟨R, 12, none⟩ u12).setCell ⟨R, 13, none⟩ u13) R u0 u1 u2 u3 u4 u5 u6 u7 u8 u9 u10 u11 u12 u13 := by
  obtain ⟨c0, c1, c2, c3, c4, c5, c6, c7, c8, c9, c10, c11, c12, c13⟩ := h
  refine ⟨?_, ?_, ?_, ?_, ?_, ?_, ?_, ?_, ?_, ?_, ?_, ?_, ?_, ?_⟩
  · exact (cell_set_by (j := 13) (cell_set_by (j := 12) (cell_set_by (j := 11) (cell_set_by (j := 10) (cell_set_by (j := 9) (cell_set_by (j := 8) (cell_set_by (j := 7) (cell_set_by (j := 6) (cell_set_by (j := 5) (cell_set_by (j := 4) (cell_set_by (j := 3) (cell_set_by (j := 2) (cell_set_by (j := 1) (cell_set_at c0) (by omega)) (by omega)) (by omega)) (by omega)) (by omega)) (by omega)) (by omega)) (by omega)) (by omega)) (by omega)) (by omega)) (by omega)) (by omega))
  · exact (cell_set_by (j := 13) (cell_set_by (j := 12) (cell_set_by (j := 11) (cell_set_by (j := 10) (cell_set_by (j := 9) (cell_set_by (j := 8) (cell_set_by (j := 7) (cell_set_by (j := 6) (cell_set_by (j := 5) (cell_set_by (j := 4) (cell_set_by (j := 3) (cell_set_by (j := 2) (cell_set_at (cell_set_by (j := 0) c1 (by omega))) (by omega)) (by omega)) (by omega)) (by omega)) (by omega)) (by omega)) (by omega)) (by omega)) (by omega)) (by omega)) (by omega)) (by omega))
  · exact (cell_set_by (j := 13) (cell_set_by (j := 12) (cell_set_by (j := 11) (cell_set_by (j := 10) (cell_set_by (j := 9) (cell_set_by (j := 8) (cell_set_by (j := 7) (cell_set_by (j := 6) (cell_set_by (j := 5) (cell_set_by (j := 4) (cell_set_by (j := 3) (cell_set_at (cell_set_by (j := 1) (cell_set_by (j := 0) c2 (by omega)) (by omega))) (by omega)) (by omega)) (by omega)) (by omega)) (by omega)) (by omega)) (by omega)) (by omega)) (by omega)) (by omega)) (by omega))
  · exact (cell_set_by (j := 13) (cell_set_by (j := 12) (cell_set_by (j := 11) (cell_set_by (j := 10) (cell_set_by (j := 9) (cell_set_by (j := 8) (cell_set_by (j := 7) (cell_set_by (j := 6) (cell_set_by (j := 5) (cell_set_by (j := 4) (cell_set_at (cell_set_by (j := 2) (cell_set_by (j := 1) (cell_set_by (j := 0) c3 (by omega)) (by omega)) (by omega))) (by omega)) (by omega)) (by omega)) (by omega)) (by omega)) (by omega)) (by omega)) (by omega)) (by omega)) (by omega))
  · exact (cell_set_by (j := 13) (cell_set_by (j := 12) (cell_set_by (j := 11) (cell_set_by (j := 10) (cell_set_by (j := 9) (cell_set_by (j := 8) (cell_set_by (j := 7) (cell_set_by (j := 6) (cell_set_by (j := 5) (cell_set_at (cell_set_by (j := 3) (cell_set_by (j := 2) (cell_set_by (j := 1) (cell_set_by (j := 0) c4 (by omega)) (by omega)) (by omega)) (by omega))) (by omega)) (by omega)) (by omega)) (by omega)) (by omega)) (by omega)) (by omega)) (by omega)) (by omega))
  · exact (cell_set_by (j := 13) (cell_set_by (j := 12) (cell_set_by (j := 11) (cell_set_by (j := 10) (cell_set_by (j := 9) (cell_set_by (j := 8) (cell_set_by (j := 7) (cell_set_by (j := 6) (cell_set_at (cell_set_by (j := 4) (cell_set_by (j := 3) (cell_set_by (j := 2) (cell_set_by (j := 1) (cell_set_by (j := 0) c5 (by omega)) (by omega)) (by omega)) (by omega)) (by omega))) (by omega)) (by omega)) (by omega)) (by omega)) (by omega)) (by omega)) (by omega)) (by omega))
  · exact (cell_set_by (j := 13) (cell_set_by (j := 12) (cell_set_by (j := 11) (cell_set_by (j := 10) (cell_set_by (j := 9) (cell_set_by (j := 8) (cell_set_by (j := 7) (cell_set_at (cell_set_by (j := 5) (cell_set_by (j := 4) (cell_set_by (j := 3) (cell_set_by (j := 2) (cell_set_by (j := 1) (cell_set_by (j := 0) c6 (by omega)) (by omega)) (by omega)) (by omega)) (by omega)) (by omega))) (by omega)) (by omega)) (by omega)) (by omega)) (by omega)) (by omega)) (by omega))
  · exact (cell_set_by (j := 13) (cell_set_by (j := 12) (cell_set_by (j := 11) (cell_set_by (j := 10) (cell_set_by (j := 9) (cell_set_by (j := 8) (cell_set_at (cell_set_by (j := 6) (cell_set_by (j := 5) (cell_set_by (j := 4) (cell_set_by (j := 3) (cell_set_by (j := 2) (cell_set_by (j := 1) (cell_set_by (j := 0) c7 (by omega)) (by omega)) (by omega)) (by omega)) (by omega)) (by omega)) (by omega))) (by omega)) (by omega)) (by omega)) (by omega)) (by omega)) (by omega))
  · exact (cell_set_by (j := 13) (cell_set_by (j := 12) (cell_set_by (j := 11) (cell_set_by (j := 10) (cell_set_by (j := 9) (cell_set_at (cell_set_by (j := 7) (cell_set_by (j := 6) (cell_set_by (j := 5) (cell_set_by (j := 4) (cell_set_by (j := 3) (cell_set_by (j := 2) (cell_set_by (j := 1) (cell_set_by (j := 0) c8 (by omega)) (by omega)) (by omega)) (by omega)) (by omega)) (by omega)) (by omega)) (by omega))) (by omega)) (by omega)) (by omega)) (by omega)) (by omega))
  · exact (cell_set_by (j := 13) (cell_set_by (j := 12) (cell_set_by (j := 11) (cell_set_by (j := 10) (cell_set_at (cell_set_by (j := 8) (cell_set_by (j := 7) (cell_set_by (j := 6) (cell_set_by (j := 5) (cell_set_by (j := 4) (cell_set_by (j := 3) (cell_set_by (j := 2) (cell_set_by (j := 1) (cell_set_by (j := 0) c9 (by omega)) (by omega)) (by omega)) (by omega)) (by omega)) (by omega)) (by omega)) (by omega)) (by omega))) (by omega)) (by omega)) (by omega)) (by omega))
  · exact (cell_set_by (j := 13) (cell_set_by (j := 12) (cell_set_by (j := 11) (cell_set_at (cell_set_by (j := 9) (cell_set_by (j := 8) (cell_set_by (j := 7) (cell_set_by (j := 6) (cell_set_by (j := 5) (cell_set_by (j := 4) (cell_set_by (j := 3) (cell_set_by (j := 2) (cell_set_by (j := 1) (cell_set_by (j := 0) c10 (by omega)) (by omega)) (by omega)) (by omega)) (by omega)) (by omega)) (by omega)) (by omega)) (by omega)) (by omega))) (by omega)) (by omega)) (by omega))
  · exact (cell_set_by (j := 13) (cell_set_by (j := 12) (cell_set_at (cell_set_by (j := 10) (cell_set_by (j := 9) (cell_set_by (j := 8) (cell_set_by (j := 7) (cell_set_by (j := 6) (cell_set_by (j := 5) (cell_set_by (j := 4) (cell_set_by (j := 3) (cell_set_by (j := 2) (cell_set_by (j := 1) (cell_set_by (j := 0) c11 (by omega)) (by omega)) (by omega)) (by omega)) (by omega)) (by omega)) (by omega)) (by omega)) (by omega)) (by omega)) (by omega))) (by omega)) (by omega))
  · exact (cell_set_by (j := 13) (cell_set_at (cell_set_by (j := 11) (cell_set_by (j := 10) (cell_set_by (j := 9) (cell_set_by (j := 8) (cell_set_by (j := 7) (cell_set_by (j := 6) (cell_set_by (j := 5) (cell_set_by (j := 4) (cell_set_by (j := 3) (cell_set_by (j := 2) (cell_set_by (j := 1) (cell_set_by (j := 0) c12 (by omega)) (by omega)) (by omega)) (by omega)) (by omega)) (by omega)) (by omega)) (by omega)) (by omega)) (by omega)) (by omega)) (by omega))) (by omega))
  · exact (cell_set_at (cell_set_by (j := 12) (cell_set_by (j := 11) (cell_set_by (j := 10) (cell_set_by (j := 9) (cell_set_by (j := 8) (cell_set_by (j := 7) (cell_set_by (j := 6) (cell_set_by (j := 5) (cell_set_by (j := 4) (cell_set_by (j := 3) (cell_set_by (j := 2) (cell_set_by (j := 1) (cell_set_by (j := 0) c13 (by omega)) (by omega)) (by omega)) (by omega)) (by omega)) (by omega)) (by omega)) (by omega)) (by omega)) (by omega)) (by omega)) (by omega)) (by omega)))
theorem V14.putK {w : World} {R : Nat} {x0 x1 x2 x3 x4 x5 x6 x7 x8 x9 x10 x11 x12 x13 : Value} (h : V14 w R x0 x1 x2 x3 x4 x5 x6 x7 x8 x9 x10 x11 x12 x13) (l0 : ¬ IsLimb x0) (l1 : ¬ IsLimb x1) (l2 : ¬ IsLimb x2) (l3 : ¬ IsLimb x3) (l4 : ¬ IsLimb x4) (l5 : ¬ IsLimb x5) (l6 : ¬ IsLimb x6) (l7 : ¬ IsLimb x7) (l8 : ¬ IsLimb x8) (l9 : ¬ IsLimb x9) (l10 : ¬ IsLimb x10) (l11 : ¬ IsLimb x11) (l12 : ¬ IsLimb x12) (l13 : ¬ IsLimb x13) (u0 u1 u2 u3 u4 u5 u6 u7 u8 u9 u10 u11 u12 u13 : Value) : KeepQ IsLimb w ((((((((((((((w.setCell ⟨R, 0, none⟩ u0).setCell ⟨R, 1, none⟩ u1).setCell ⟨R, 2, none⟩ u2).setCell ⟨R, 3, none⟩ u3).setCell ⟨R, 4, none⟩ u4).setCell ⟨R, 5, none⟩ u5).setCell ⟨R, 6, none⟩ u6).setCell ⟨R, 7, none⟩ u7).setCell ⟨R, 8, none⟩ u8).setCell ⟨R, 9, none⟩ u9).setCell ⟨R, 10, none⟩ u10).setCell ⟨R, 11, none⟩ u11).setCell ⟨R, 12, none⟩ u12).setCell ⟨R, 13, none⟩ u13) := by
  obtain ⟨c0, c1, c2, c3, c4, c5, c6, c7, c8, c9, c10, c11, c12, c13⟩ := h
  exact ((((((((((((((keepL_set c0 l0 u0).trans (keepL_set (cell_set_by (j := 0) c1 (by omega)) l1 u1)).trans (keepL_set (cell_set_by (j := 1) (cell_set_by (j := 0) c2 (by omega)) (by omega)) l2 u2)).trans (keepL_set (cell_set_by (j := 2) (cell_set_by (j := 1) (cell_set_by (j := 0) c3 (by omega)) (by omega)) (by omega)) l3 u3)).trans (keepL_set (cell_set_by (j := 3) (cell_set_by (j := 2) (cell_set_by (j := 1) (cell_set_by (j := 0) c4 (by omega)) (by omega)) (by omega)) (by omega)) l4 u4)).trans (keepL_set (cell_set_by (j := 4) (cell_set_by (j := 3) (cell_set_by (j := 2) (cell_set_by (j := 1) (cell_set_by (j := 0) c5 (by omega)) (by omega)) (by omega)) (by omega)) (by omega)) l5 u5)).trans (keepL_set (cell_set_by (j := 5) (cell_set_by (j := 4) (cell_set_by (j := 3) (cell_set_by (j := 2) (cell_set_by (j := 1) (cell_set_by (j := 0) c6 (by omega)) (by omega)) (by omega)) (by omega)) (by omega)) (by omega)) l6 u6)).trans (keepL_set (cell_set_by (j := 6) (cell_set_by (j := 5) (cell_set_by (j := 4) (cell_set_by (j := 3) (cell_set_by (j := 2) (cell_set_by (j := 1) (cell_set_by (j := 0) c7 (by omega)) (by omega)) (by omega)) (by omega)) (by omega)) (by omega)) (by omega)) l7 u7)).trans (keepL_set (cell_set_by (j := 7) (cell_set_by (j := 6) (cell_set_by (j := 5) (cell_set_by (j := 4) (cell_set_by (j := 3) (cell_set_by (j := 2) (cell_set_by (j := 1) (cell_set_by (j := 0) c8 (by omega)) (by omega)) (by omega)) (by omega)) (by omega)) (by omega)) (by omega)) (by omega)) l8 u8)).trans (keepL_set (cell_set_by (j := 8) (cell_set_by (j := 7) (cell_set_by (j := 6) (cell_set_by (j := 5) (cell_set_by (j := 4) (cell_set_by (j := 3) (cell_set_by (j := 2) (cell_set_by (j := 1) (cell_set_by (j := 0) c9 (by omega)) (by omega)) (by omega)) (by omega)) (by omega)) (by omega)) (by omega)) (by omega)) (by omega)) l9 u9)).trans (keepL_set (cell_set_by (j := 9) (cell_set_by (j := 8) (cell_set_by (j := 7) (cell_set_by (j := 6) (cell_set_by (j := 5) (cell_set_by (j := 4) (cell_set_by (j := 3) (cell_set_by (j := 2) (cell_set_by (j := 1) (cell_set_by (j := 0) c10 (by omega)) (by omega)) (by omega)) (by omega)) (by omega)) (by omega)) (by omega)) (by omega)) (by omega)) (by omega)) l10 u10)).trans (keepL_set (cell_set_by (j := 10) (cell_set_by (j := 9) (cell_set_by (j := 8) (cell_set_by (j := 7) (cell_set_by (j := 6) (cell_set_by (j := 5) (cell_set_by (j := 4) (cell_set_by (j := 3) (cell_set_by (j := 2) (cell_set_by (j := 1) (cell_set_by (j := 0) c11 (by omega)) (by omega)) (by omega)) (by omega)) (by omega)) (by omega)) (by omega)) (by omega)) (by omega)) (by omega)) (by omega)) l11 u11)).trans (keepL_set (cell_set_by (j := 11) (cell_set_by (j := 10) (cell_set_by (j := 9) (cell_set_by (j := 8) (cell_set_by (j := 7) (cell_set_by (j := 6) (cell_set_by (j := 5) (cell_set_by (j := 4) (cell_set_by (j := 3) (cell_set_by (j := 2) (cell_set_by (j := 1) (cell_set_by (j := 0) c12 (by omega)) (by omega)) (by omega)) (by omega)) (by omega)) (by omega)) (by omega)) (by omega)) (by omega)) (by omega)) (by omega)) (by omega)) l12 u12)).trans (keepL_set (cell_set_by (j := 12) (cell_set_by (j := 11) (cell_set_by (j := 10) (cell_set_by (j := 9) (cell_set_by (j := 8) (cell_set_by (j := 7) (cell_set_by (j := 6) (cell_set_by (j := 5) (cell_set_by (j := 4) (cell_set_by (j := 3) (cell_set_by (j := 2) (cell_set_by (j := 1) (cell_set_by (j := 0) c13 (by omega)) (by omega)) (by omega)) (by omega)) (by omega)) (by omega)) (by omega)) (by omega)) (by omega)) (by omega)) (by omega)) (by omega)) (by omega)) l13 u13))

end Go.Proofs.YtnnnkajomljdgaaDoor

namespace Go.Proofs.YtnnnkajomljdgaaDoor
open Go.RowKit
set_option linter.unusedVariables false
set_option linter.unusedSimpArgs false

theorem wpList_store_row {P : Program} {ops : Array Oper} {rest : List Oper} {o : Oper} {a : Act} {Q : Exit → Act → World → Prop} {w : World} (hgd : o.guard = none) (t : TypeId) (x y : Operand) (ho : o.op = .store t x y) (i0 : TypeInfo) (hi : P.info? t = some i0) (g : Nat) (hx : a.eval x = .pointer (some ⟨g, 0, none⟩)) (vs : Array Value) (hy : a.eval y = .agg vs)
    (cur : Array Value) (t' : TypeId) (hg : w.heap[g]? = some (.cells cur t' (0, 0))) (hl : vs.size = cur.size) (hs : i0.size = vs.size) (h1 : ∀ v ∈ vs.toList, v.oneCell' = true)
    (h : ∀ w', w'.heap[g]? = some (.cells vs t' (0, 0)) → w' = w.setRow g vs → wpList P ops Q rest (a.put o.dst undef) w') :
    wpList P ops Q (o :: rest) a w := by
  refine wpList_plain hgd fun K hK => ?_
  have hst := run_storeCells_at (P := P) g 0 t' vs.toList 0 cur w hg (by simp [hl]) h1
  have e9 : (List.take (0 + 0) cur.toList ++ vs.toList ++ List.drop (0 + 0 + vs.toList.length) cur.toList).toArray = vs := by
    rw [List.drop_eq_nil_of_le (by simp [hl])]
    simp
  rw [e9] at hst
  unfold Oper.wp execOp
  simp [ho, hx, hy, Instr.storeAt, Instr.sureAddr, storeVar, sizeOf, typeInfo, hi, hs, hst, Result.andThen, Value.cells]
  exact hK _ _ (h _ (setRow_heap w g cur vs t' _ hg) rfl)

/-- A block's cells, told at once. -/
structure Blk10 (w : World) (g : Nat) (vs : Array Value) (t : TypeId) : Prop where
  heap : w.heap[g]? = some (.cells vs t (0, 0))
theorem Blk10.lt {w : World} {g : Nat} {vs : Array Value} {t : TypeId} (h : Blk10 w g vs t) : g < w.heap.size := by
  by_cases e : g < w.heap.size
  · exact e
  · have := h.heap
    rw [Array.getElem?_eq_none (by omega)] at this
    cases this
theorem Blk10.below {w w' : World} {g : Nat} {vs : Array Value} {t : TypeId} (h : Blk10 w g vs t) (hb : Below w.heap.size w w') : Blk10 w' g vs t := ⟨(hb.block g h.lt).trans h.heap⟩
theorem Blk10.new (w : World) (vs : Array Value) (t : TypeId) : Blk10 (w.alloc (.cells vs t)) w.heap.size vs t := ⟨heap_alloc_new w _⟩
theorem Blk10.cell {w : World} {g : Nat} {vs : Array Value} {t : TypeId} (h : Blk10 w g vs t) (j : Nat) : w.cell? ⟨g, j, none⟩ = vs[j]? := cell_of_row w g j vs t _ h.heap
theorem Blk10.keep {w : World} {g : Nat} {vs : Array Value} {t : TypeId} (h : Blk10 w g vs t) (hn : ∀ v ∈ vs.toList, ¬ IsLimb v) (us : Array Value) : KeepQ IsLimb w (w.setRow g us) := fun b o v hv hc => by
  by_cases e : b = g
  · subst e
    rw [h.cell] at hc
    exact absurd hv (hn v (Array.mem_toList_iff.2 (Array.mem_of_getElem? hc)))
  · exact (World.cell?_of_block (w := w) (setRow_other w g b _ e)).trans hc
theorem Blk10.other {w : World} {g g' : Nat} {vs us : Array Value} {t : TypeId} (h : Blk10 w g vs t) (hne : g ≠ g') : Blk10 (w.setRow g' us) g vs t := ⟨(setRow_other w g' g _ hne).trans h.heap⟩
theorem Blk10.v14 {w : World} {g : Nat} {x0 x1 x2 x3 x4 x5 x6 x7 x8 x9 x10 x11 x12 x13 : Value} {t : TypeId} (h : Blk10 w g #[x0, x1, x2, x3, x4, x5, x6, x7, x8, x9, x10, x11, x12, x13] t) : V14 w g x0 x1 x2 x3 x4 x5 x6 x7 x8 x9 x10 x11 x12 x13 :=
  ⟨h.cell 0, h.cell 1, h.cell 2, h.cell 3, h.cell 4, h.cell 5, h.cell 6, h.cell 7, h.cell 8, h.cell 9, h.cell 10, h.cell 11, h.cell 12, h.cell 13⟩
theorem Blk10.v4 {w : World} {g : Nat} {x0 x1 x2 x3 : Value} {t : TypeId} (h : Blk10 w g #[x0, x1, x2, x3] t) : w.cell? ⟨g, 0, none⟩ = some x0 ∧ w.cell? ⟨g, 1, none⟩ = some x1 ∧ w.cell? ⟨g, 2, none⟩ = some x2 ∧ w.cell? ⟨g, 3, none⟩ = some x3 :=
  ⟨h.cell 0, h.cell 1, h.cell 2, h.cell 3⟩

end Go.Proofs.YtnnnkajomljdgaaDoor
