/-
  Texts of mine.
-/
import Derived.Test.YthkamfddbiheoaaGreatDoorJa3f7135d0b
import Derived.Test.YthkamfddbiheoaaGreatDoorJa607d653bf
namespace Go.Proofs.YthkamfddbiheoaaGreatDoor
open Go.RowKit
set_option linter.unusedVariables false
set_option linter.unusedSimpArgs false

theorem enters_own8 {P : Program} {f : FuncId} {fn : Func} {c : Code} (hf : P.funcs[f]? = some fn) (hname : (fn.name == "runtime.NumGoroutine") = false) (hb : fn.body = some c) (args : Array Value) (w : World) : Sem.run P (callFunc f args) w = .ok (.enter f args) w := by
 have h1 : fn.name ≠ "runtime.NumGoroutine" := by simpa using hname
 simp [callFunc, hf, h1, hb, mark]
def Kf : Nat → FuncId
 | 0 => 91
 | 1 => 92
 | 2 => 93
 | _ => 94
theorem Kf_enters (r : Nat) (args : Array Value) (w : World) : Sem.run Tryz.prog (callFunc (Kf r) args) w = .ok (.enter (Kf r) args) w := by
 match r with
 | 0 => exact enters_own8 Tryz.func91 (by kernel_rfl) rfl args w
 | 1 => exact enters_own8 Tryz.func92 (by kernel_rfl) rfl args w
 | 2 => exact enters_own8 Tryz.func93 (by kernel_rfl) rfl args w
 | n + 3 => exact enters_own8 Tryz.func94 (by kernel_rfl) rfl args w
theorem rule_any (r : Nat) (hr : r < 4) (v : Value) (n : Nat) (t : Nat → Nd) (F : Int) (L : Nat) (w : World) (hv : TRow w v n t L) (ht : Tab w) (hn0 : 0 < n) (hn : n ≤ 255) (hN : 0 < r → Named t n) (hL : 1 ≤ L) (hLM : L ≤ 30000) :
  Calls Tryz.prog (Kf r) #[v, .int .i64 F] w fun e w' => e = .returned (rlV F t n r) ∧ Below w.heap.size w w' := by
 rcases (by omega : r = 0 ∨ r = 1 ∨ r = 2 ∨ r = 3) with rfl | rfl | rfl | rfl
 ·exact namesPlaces_at v n t F L w hv
 ·exact isTree_at v n t F L w hv (hN (by omega)) hn0 hn
 ·exact hasCovers_at v n t F L w hv hL (by omega)
 ·exact addsUp_at v n t F L w hv ht (hN (by omega)) hL hLM
theorem rl_err {F : Int} {t : Nat → Nd} {n r : Nat} {e : Int} {nd : Nat} (h : rl F t n r = some (e, nd)) : e = 8 ∨ e = 11 ∨ e = 12 ∨ e = 13 := by
 match r with
 | 0 =>
  simp only [rl, Option.map_eq_some_iff] at h
  obtain ⟨i, _, e⟩ := h
  cases e; omega
 | 1 =>
  simp only [rl, Option.map_eq_some_iff] at h
  obtain ⟨i, _, e⟩ := h
  cases e; omega
 | 2 =>
  simp only [rl, Option.map_eq_some_iff] at h
  obtain ⟨i, _, e⟩ := h
  cases e; omega
 | r + 3 =>
  simp only [rl, Option.map_eq_some_iff] at h
  obtain ⟨i, _, e⟩ := h
  cases e; omega
/-- What Check answers. -/
def ChkOut (F : Int) (k : Nat) (N : Nat → Nat) (T : Nat → Nat → Nd) (v : Value) : Prop :=
 (mfit F k N T = false ∧ v = .agg #[.int .i64 1, .int .i64 0, .int .i64 0, .int .i64 0]) ∨ (mfit F k N T = true ∧ ∃ x, IsFirst F k N T x ∧ v = fltV x)
theorem ChkOut.one {F : Int} {k : Nat} {N : Nat → Nat} {T : Nat → Nat → Nd} {v v' : Value} (h : ChkOut F k N T v) (h' : ChkOut F k N T v') : v = v' := by
 rcases h with ⟨h1, rfl⟩ | ⟨h1, x, h2, rfl⟩ <;> rcases h' with ⟨h1', rfl⟩ | ⟨h1', x', h2', rfl⟩
 ·rfl
 ·rw [h1] at h1'; cases h1'
 ·rw [h1] at h1'; cases h1'
 ·rw [h2.one h2']

set_option maxRecDepth 100000 in
set_option maxHeartbeats 4000000 in
theorem rules_at (w : World) : Calls Tryz.prog 64 #[] w fun e w' => ∃ g, e = .returned (.slice (some ⟨g, 0, none⟩) 4 4) ∧ (∀ r, r < 4 → w'.cell? ⟨g, r, none⟩ = some (.func (.func (Kf r)) #[] #[])) ∧ Below w.heap.size w w' := by
 have hb := heap_alloc_new w (.cells #[.func (.func (Kf 0)) #[] #[], .func (.func (Kf 1)) #[] #[], .func (.func (Kf 2)) #[] #[], .func (.func (Kf 3)) #[] #[]] 106)
 have hB : Below w.heap.size w (w.alloc (.cells #[.func (.func (Kf 0)) #[] #[], .func (.func (Kf 1)) #[] #[], .func (.func (Kf 2)) #[] #[], .func (.func (Kf 3)) #[] #[]] 106)) := (Below.refl _ _).alloc (Nat.le_refl _) _
 have hc : ∀ r, r < 4 → (w.alloc (.cells #[.func (.func (Kf 0)) #[] #[], .func (.func (Kf 1)) #[] #[], .func (.func (Kf 2)) #[] #[], .func (.func (Kf 3)) #[] #[]] 106)).cell? ⟨w.heap.size, r, none⟩ = some (.func (.func (Kf r)) #[] #[]) := fun r hr => by
  rw [cell_of_row _ _ _ _ _ _ hb]
  rcases (by omega : r = 0 ∨ r = 1 ∨ r = 2 ∨ r = 3) with rfl | rfl | rfl | rfl <;> rfl
 have HC : Hid (∀ r, r < 4 → (w.alloc (.cells #[.func (.func (Kf 0)) #[] #[], .func (.func (Kf 1)) #[] #[], .func (.func (Kf 2)) #[] #[], .func (.func (Kf 3)) #[] #[]] 106)).cell? ⟨w.heap.size, r, none⟩ = some (.func (.func (Kf r)) #[] #[])) := hc
 clear hc hb
 go_enter Tryz.func64, Tryz.ntmps64
 go_wp2
 go_ret
 exact ⟨_, rfl, HC.out, hB⟩


set_option maxRecDepth 100000 in
set_option maxHeartbeats 8000000 in
theorem check_at (F : Int) (v : Value) (k : Nat) (N : Nat → Nat) (T : Nat → Nat → Nd) (L : Nat) (w : World) (hv : MRow w v k N T L) (ht : Tab w) (hL : 1 ≤ L) (hLM : L ≤ 30000) :
  Calls Tryz.prog 36 #[.agg #[.int .i64 F, v]] w fun e w' => ∃ u, e = .returned u ∧ ChkOut F k N T u ∧ Below w.heap.size w w' := by
 obtain ⟨ao, c, rfl, hnc, hc63⟩ := hv.open
 have BB : Below w.heap.size w w := Below.refl _ _
 obtain ⟨Wb0, hW0, hS0, hL0, VM⟩ := V2.lay w 24 (.int .i64 F) (.slice ao k c)
 replace hv := hv.below hL0
 replace ht := ht.below hL0
 replace BB := BB.trans (hL0.mono BB.size)
 clear hL0
 obtain ⟨Wb1, hW1, hS1, hL1, VR⟩ := V4.lay Wb0 31 (.int .i64 0) (.int .i64 0) (.int .i64 0) (.int .i64 0)
 rw [hS0] at VR hS1
 replace hv := hv.below hL1
 replace ht := ht.below hL1
 replace VM := VM.below hL1
 replace BB := BB.trans (hL1.mono BB.size)
 clear hL1
 go_enter Tryz.func36, Tryz.ntmps36
 obtain ⟨VM_0, VM_1, VM_2, VM_3⟩ := id VM
 rw [hW1, hW0] at VM_0 VM_1 VM_2 VM_3
 go_wp2_with fail
 clear VM_0 VM_1 VM_2 VM_3
 rw [← hW0]
 rw [← hW1]
 clear hW0 hW1 hS0 hS1
 refine (fits_at F _ k N T L _ hv).mono ?_
 rintro e w1 ⟨rfl, b1⟩
 replace hv := hv.below b1
 replace ht := ht.below b1
 replace VM := VM.below b1
 replace VR := VR.below b1
 replace BB := BB.trans (b1.mono BB.size)
 clear b1
 cases hmf : mfit F k N T
 ·have HM : Hid (mfit F k N T = false) := hmf
  clear hmf
  obtain ⟨⟨q1, q2, q3, q4, q5, q6⟩, q7, q8⟩ := id VR
  go_wp2
  (try simp only [Exit.inBlock, Exit.then])
  refine bodyPost_ret (v := .agg #[.int .i64 1, .int .i64 0, .int .i64 0, .int .i64 0]) (by simp [results, go_sem, q1, q2, q3, q7]) rfl ?_
  exact ⟨_, rfl, .inl ⟨HM.out, rfl⟩, below_store4 BB (by omega) _ _ _ _⟩
 ·have HM : Hid (mfit F k N T = true) := hmf
  obtain ⟨hF0, hF1, hk64, hlens⟩ := mfit_is hmf
  have HLN : Hid (∀ i, i < k → 1 ≤ N i ∧ N i ≤ 255) := hlens
  clear hmf hlens hF0 hF1
  go_wp2_with fail
  refine (rules_at _).mono ?_
  rintro e w2 ⟨gr, rfl, hRc, b2⟩
  replace hv := hv.below b2
  replace ht := ht.below b2
  replace VM := VM.below b2
  replace VR := VR.below b2
  replace BB := BB.trans (b2.mono BB.size)
  clear b2
  have HRC : Hid (∀ r, r < 4 → w2.cell? ⟨gr, r, none⟩ = some (.func (.func (Kf r)) #[] #[])) := hRc
  clear hRc
  have hv0 := hv
  have ht0 := ht
  have VM0 := VM
  have VR0 := VR
  have BB0 : Hid (Below w.heap.size w w2) := BB
  clear hv ht VM VR BB
  go_wp2
  go_loopw [14] (fun vi wr => ∃ r : Nat, r ≤ 4 ∧ vi = .int .i64 (r : Int) ∧ Hid (∀ r', r' < r → ∀ i, i < k → rl F (T i) (N i) r' = none) ∧ Below w2.heap.size w2 wr) (fun vi _ => 4 - (intOf vi).toNat)
  case atStart => exact ⟨0, by omega, rfl, fun r' h => by omega, Below.refl _ _⟩
  case round =>
   obtain ⟨r, hr, rfl, HB, BL⟩ := hrel
   by_cases hlt : r < 4
   ·have g1 : (r : Int) < 4 := by omega
    have g0 : (0 : Int) ≤ (r : Int) := by omega
    have XK0 := HRC.out r hlt
    have XK : wr.cell? ⟨gr, r, none⟩ = some (.func (.func (Kf r)) #[] #[]) := (BL.cell (World.block_lt_of_cell? _ _ XK0)).trans XK0
    clear XK0
    obtain ⟨VM_0, VM_1, VM_2, VM_3⟩ := VM0.below BL
    go_wp2
    clear VM_0 VM_1 VM_2 VM_3 XK
    obtain ⟨wo, rfl⟩ : ∃ wo, wo = wr := ⟨_, rfl⟩
    have hEn := Kf_enters r
    have HEN : Hid (∀ (args : Array Value) (w : World), Sem.run Tryz.prog (callFunc (Kf r) args) w = .ok (.enter (Kf r) args) w) := hEn
    clear hEn
    go_loopw [21] (fun vi wr => ∃ i : Nat, i ≤ k ∧ vi = .int .i64 (i : Int) ∧ Hid (∀ i', i' < i → rl F (T i') (N i') r = none) ∧ Below w2.heap.size w2 wr) (fun vi _ => k - (intOf vi).toNat)
    case atStart => exact ⟨0, by omega, rfl, fun i' h => by omega, BL⟩
    case round =>
     clear BL
     obtain ⟨i, hi, rfl, HI, BL⟩ := hrel
     by_cases hlt2 : i < k
     ·have g2 : (i : Int) < (k : Int) := by omega
      have g3 : (0 : Int) ≤ (i : Int) := by omega
      obtain ⟨b, off, cc, a, d, hvv, hcc, XC, TR⟩ := (hv0.below BL).at hlt2
      cases hvv
      have ht := ht0.below BL
      have VM := VM0.below BL
      have VR := VR0.below BL
      have BB := BB0.out.trans (BL.mono BB0.out.size)
      obtain ⟨VM_0, VM_1, VM_2, VM_3⟩ := id VM
      obtain ⟨hn1, hn2⟩ := HLN.out i hlt2
      have HNM : Hid (0 < r → Named (T i) (N i)) := fun h0 => rl0_named (HB.out 0 h0 i hlt2)
      have hEn := HEN.out
      obtain ⟨K, hK⟩ : ∃ K, K = Kf r := ⟨_, rfl⟩
      rw [← hK] at hEn
      rw [← hK]
      have HK : Hid (K = Kf r) := hK
      clear hK
      have hcall := rule_any r hlt (.slice a (N i) d) (N i) (T i) F L wr TR ht hn1 hn2 HNM.out hL hLM
      rw [← HK.out] at hcall
      have HCL : Hid (Calls Tryz.prog K #[.slice a (N i) d, .int .i64 F] wr fun e w' => e = .returned (rlV F (T i) (N i) r) ∧ Below wr.heap.size wr w') := hcall
      clear hcall
      go_wp2_with fail
      refine HCL.out.mono ?_
      rintro e w40 ⟨rfl, b40⟩
      replace VR := VR.below b40
      replace BB := BB.trans (b40.mono BB.size)
      replace BL := BL.trans (b40.mono BL.size)
      clear HCL b40 XC TR ht VM VM_0 VM_1 VM_2 VM_3 hEn HNM
      have HRV : Hid (rlV F (T i) (N i) r = fltV ((rl F (T i) (N i) r).map (fun x => (x.1, 0, x.2)))) := rfl
      rw [HRV.out]
      clear HRV
      cases hrl : rl F (T i) (N i) r
      ·have HI2 : Hid (∀ i', i' < i + 1 → rl F (T i') (N i') r = none) := fun i' h => by
        by_cases e : i' = i
        ·subst e; exact hrl
        ·exact HI.out i' (by omega)
       clear hrl HI
       rw [show fltV (Option.map (fun x : Int × Nat => (x.1, 0, x.2)) none) = .agg #[.int .i64 0, .int .i64 0, .int .i64 0, .int .i64 0] from rfl]
       obtain ⟨W1, rfl, hS1, hL1, VF⟩ := V4.lay w40 31 (.int .i64 0) (.int .i64 0) (.int .i64 0) (.int .i64 0)
       replace BL := BL.trans (hL1.mono BL.size)
       obtain ⟨⟨y1, y2, y3, y4, y5, y6⟩, y7, y8⟩ := id VF
       go_wp2
       go_roundw
       case rel => exact ⟨i + 1, by omega, by go_num, HI2, BL⟩
       case measure => simp [intOf]; omega
      ·rename_i en
       obtain ⟨er, nd⟩ := en
       have hee := rl_err hrl
       have HRL : Hid (rl F (T i) (N i) r = some (er, nd)) := hrl
       clear hrl
       rw [show fltV (Option.map (fun x : Int × Nat => (x.1, 0, x.2)) (some (er, nd))) = .agg #[.int .i64 er, .int .i64 0, .int .i64 0, .int .i64 (nd : Int)] from rfl]
       have HX : Hid (IsFirst F k N T (some (er, i, nd))) := .inr ⟨r, i, er, nd, hlt, hlt2, rfl, HRL.out, HB.out, HI.out⟩
       clear HRL HB HI
       obtain ⟨W1, rfl, hS1, hL1, VF⟩ := V4.lay w40 31 (.int .i64 er) (.int .i64 0) (.int .i64 0) (.int .i64 (nd : Int))
       obtain ⟨⟨y1, y2, y3, y4, y5, y6⟩, y7, y8⟩ := id VF
       have VS := (VR.same (.int .i64 er) (.int .i64 0) (.int .i64 (i : Int)) (.int .i64 (nd : Int))).below ((Below.refl _ _).alloc (Nat.le_refl _) (.cells #[.int .i64 er, .int .i64 0, .int .i64 (i : Int), .int .i64 (nd : Int)] 31))
       have BS := below_store4 BB (Nat.le_add_right _ 1) (.int .i64 er) (.int .i64 0) (.int .i64 (i : Int)) (.int .i64 (nd : Int))
       have BS2 := BS.alloc BS.size (.cells #[.int .i64 er, .int .i64 0, .int .i64 (i : Int), .int .i64 (nd : Int)] 31)
       have hne := VR.lt
       have HVS : Hid (V4 _ _ _ _ _ _) := VS
       clear VF VS
       obtain ⟨⟨z1, z2, z3, z4, z5, z6⟩, z7, z8⟩ := id VR
       rcases hee with rfl | rfl | rfl | rfl
       ·go_wp2
        (try simp only [Exit.inBlock, Exit.then])
        obtain ⟨⟨q1, q2, q3, q4, q5, q6⟩, q7, q8⟩ := HVS.out
        refine bodyPost_ret (v := .agg #[.int .i64 8, .int .i64 0, .int .i64 (i : Int), .int .i64 (nd : Int)]) (by simp [results, go_sem, q1, q2, q3, q7]) rfl ?_
        refine ⟨_, rfl, .inr ⟨HM.out, _, HX.out, rfl⟩, ?_⟩
        exact BS2
       ·go_wp2
        (try simp only [Exit.inBlock, Exit.then])
        obtain ⟨⟨q1, q2, q3, q4, q5, q6⟩, q7, q8⟩ := HVS.out
        refine bodyPost_ret (v := .agg #[.int .i64 11, .int .i64 0, .int .i64 (i : Int), .int .i64 (nd : Int)]) (by simp [results, go_sem, q1, q2, q3, q7]) rfl ?_
        refine ⟨_, rfl, .inr ⟨HM.out, _, HX.out, rfl⟩, ?_⟩
        exact BS2
       ·go_wp2
        (try simp only [Exit.inBlock, Exit.then])
        obtain ⟨⟨q1, q2, q3, q4, q5, q6⟩, q7, q8⟩ := HVS.out
        refine bodyPost_ret (v := .agg #[.int .i64 12, .int .i64 0, .int .i64 (i : Int), .int .i64 (nd : Int)]) (by simp [results, go_sem, q1, q2, q3, q7]) rfl ?_
        refine ⟨_, rfl, .inr ⟨HM.out, _, HX.out, rfl⟩, ?_⟩
        exact BS2
       ·go_wp2
        (try simp only [Exit.inBlock, Exit.then])
        obtain ⟨⟨q1, q2, q3, q4, q5, q6⟩, q7, q8⟩ := HVS.out
        refine bodyPost_ret (v := .agg #[.int .i64 13, .int .i64 0, .int .i64 (i : Int), .int .i64 (nd : Int)]) (by simp [results, go_sem, q1, q2, q3, q7]) rfl ?_
        refine ⟨_, rfl, .inr ⟨HM.out, _, HX.out, rfl⟩, ?_⟩
        exact BS2
     ·have HB2 : Hid (∀ r', r' < r + 1 → ∀ i, i < k → rl F (T i) (N i) r' = none) := fun r' h i' hi' => by
       by_cases e : r' = r
       ·subst e; exact HI.out i' (by omega)
       ·exact HB.out r' (by omega) i' hi'
      clear HB HI
      obtain rfl : i = k := by omega
      have g2 : ¬ (i : Int) < (i : Int) := by omega
      go_wp2
      go_roundw
      case rel => exact ⟨r + 1, by omega, by go_num, HB2, BL⟩
      case measure => simp [intOf]; omega
   ·obtain rfl : r = 4 := by omega
    have VR := VR0.below BL
    have BB := BB0.out.trans (BL.mono BB0.out.size)
    obtain ⟨⟨q1, q2, q3, q4, q5, q6⟩, q7, q8⟩ := id VR
    go_wp2
    (try simp only [Exit.inBlock, Exit.then])
    refine bodyPost_ret (v := .agg #[.int .i64 0, .int .i64 0, .int .i64 0, .int .i64 0]) (by simp [results, go_sem, q1, q2, q3, q7]) rfl ?_
    exact ⟨_, rfl, .inr ⟨HM.out, none, .inl ⟨rfl, HB.out⟩, rfl⟩, below_store4 BB (by omega) _ _ _ _⟩

/-- Check's answer, opened. -/
theorem ChkOut.open {F : Int} {k : Nat} {N : Nat → Nat} {T : Nat → Nat → Nd} {u : Value} (h : ChkOut F k N T u) : ∃ a s d : Int, u = .agg #[.int .i64 a, .int .i64 0, .int .i64 s, .int .i64 d] ∧ (a = 0 → s = 0 ∧ d = 0) := by
 rcases h with ⟨_, rfl⟩ | ⟨_, x, h, rfl⟩
 ·exact ⟨1, 0, 0, rfl, fun h => by omega⟩
 ·rcases h with ⟨rfl, _⟩ | ⟨r, i, e, nd, hr, hi, rfl, h1, _, _⟩
  ·exact ⟨0, 0, 0, rfl, fun _ => ⟨rfl, rfl⟩⟩
  ·have := rl_err h1
   exact ⟨e, (i : Int), (nd : Int), rfl, fun h => by omega⟩


set_option maxRecDepth 100000 in
set_option maxHeartbeats 4000000 in
theorem ok_at (F : Int) (v : Value) (k : Nat) (N : Nat → Nat) (T : Nat → Nat → Nd) (L : Nat) (w : World) (hv : MRow w v k N T L) (ht : Tab w) (hL : 1 ≤ L) (hLM : L ≤ 30000) :
  Calls Tryz.prog 39 #[.agg #[.int .i64 F, v]] w fun e w' => ∃ a s d : Int, e = .returned (.bool (decide (a = 0))) ∧ ChkOut F k N T (.agg #[.int .i64 a, .int .i64 0, .int .i64 s, .int .i64 d]) ∧ Below w.heap.size w w' := by
 obtain ⟨ao, c, rfl, hnc, hc63⟩ := hv.open
 have BB : Below w.heap.size w w := Below.refl _ _
 obtain ⟨Wb0, hW0, hS0, hL0, VM⟩ := V2.lay w 24 (.int .i64 F) (.slice ao k c)
 replace hv := hv.below hL0
 replace ht := ht.below hL0
 replace BB := BB.trans (hL0.mono BB.size)
 clear hL0
 go_enter Tryz.func39, Tryz.ntmps39
 obtain ⟨VM_0, VM_1, VM_2, VM_3⟩ := id VM
 rw [hW0] at VM_0 VM_1 VM_2 VM_3
 go_wp2_with fail
 clear VM_0 VM_1 VM_2 VM_3
 rw [← hW0]
 clear hW0 hS0
 refine (check_at F _ k N T L _ hv ht hL hLM).mono ?_
 rintro e w1 ⟨u, rfl, HC, b1⟩
 replace hv := hv.below b1
 replace ht := ht.below b1
 replace VM := VM.below b1
 replace BB := BB.trans (b1.mono BB.size)
 clear b1
 have HCC : Hid (ChkOut F k N T u) := HC
 obtain ⟨a, s, d, rfl, hz⟩ := HC.open
 clear HC
 by_cases ha : a = 0
 ·obtain ⟨rfl, rfl⟩ := hz ha
  subst ha
  go_wp2
  go_ret
  exact ⟨0, 0, 0, rfl, HCC.out, BB⟩
 ·have hab : (a == 0) = false := by simp [ha]
  have HR : Hid (decide (a = 0) = false) := decide_eq_false ha
  clear hz
  go_wp2
  go_ret
  exact ⟨a, s, d, ret_bool (a := false) HR.out.symm, HCC.out, BB⟩

def upV : Option Nat → Value
 | none => .int .i64 (-1)
 | some p => .int .i64 (p : Int)
theorem upOf_lt {t : Nat → Nd} {x p m : Nat} (h : upOf t x m = some p) : p < m := (upOf_some h).1


set_option maxRecDepth 100000 in
set_option maxHeartbeats 8000000 in
theorem lparents_at (v : Value) (n x : Nat) (t : Nat → Nd) (L : Nat) (w : World) (hv : TRow w v n t L) (hn : n ≤ 255) :
  Calls Tryz.prog 65 #[v, .int .i64 (x : Int)] w fun e w' => e = .returned (.int .i64 (par t x n : Int)) ∧ Below w.heap.size w w' := by
 obtain ⟨ao, c, rfl, hnc, hc63⟩ := hv.open
 have BB : Below w.heap.size w w := Below.refl _ _
 go_enter Tryz.func65, Tryz.ntmps65
 go_wp2
 go_loopw [5, 6] (fun vc vi wr => ∃ i : Nat, i ≤ n ∧ vi = .int .i64 (i : Int) ∧ vc = .int .i64 (par t x i : Int) ∧ Below w.heap.size w wr) (fun _ vi _ => n - (intOf vi).toNat)
 case atStart => exact ⟨0, by omega, rfl, rfl, BB⟩
 case round =>
  clear BB
  obtain ⟨i, hi, rfl, rfl, BB⟩ := hrel
  have hpb := par_le t x i
  by_cases hlt : i < n
  ·have g1 : (i : Int) < (n : Int) := by omega
   have g0 : (0 : Int) ≤ (i : Int) := by omega
   have hv1 := hv.below BB
   obtain ⟨b, off, cc, p1, a1, n1, c1, b1, m1, d1, p2, a2, n2, c2, b2, m2, d2, p3, a3, n3, c3, b3, m3, d3, hvv, hcc, hc6, NN, r1, r2, r3, i1, i2, i3⟩ := hv1.at hlt
   cases hvv
   clear hv1 r1 r2 r3 i1 i2 i3
   have HK : Hid (par t x (i + 1) = par t x i + ((if (t i).leaf = false ∧ (t i).left = (x : Int) then 1 else 0) + (if (t i).leaf = false ∧ (t i).right = (x : Int) then 1 else 0))) := rfl
   obtain ⟨lf, hlf⟩ : ∃ z, (t i).leaf = z := ⟨_, rfl⟩
   obtain ⟨ll, hll⟩ : ∃ z, (t i).left = z := ⟨_, rfl⟩
   obtain ⟨rr, hrr⟩ : ∃ z, (t i).right = z := ⟨_, rfl⟩
   rw [hlf, hll, hrr] at HK
   rw [hlf, hll, hrr] at NN
   clear hlf hll hrr
   generalize (t i).miss = ms at NN
   generalize (t i).feat = ft at NN
   obtain ⟨pc, hpc⟩ : ∃ z, par t x i = z := ⟨_, rfl⟩
   rw [hpc] at HK hpb ⊢
   clear hpc
   obtain ⟨N_0, N_1, N_2, N_3, N_4, N_5, N_6, N_7, N_8, N_9, N_10, N_11, N_12, N_13⟩ := NN
   cases lf
   ·by_cases hl : ll = (x : Int)
    ·have hlb : (ll == (x : Int)) = true := by simp [hl]
     by_cases hr : rr = (x : Int)
     ·have hrb : (rr == (x : Int)) = true := by simp [hr]
      have HK2 : Hid (par t x (i + 1) = pc + 2) := show _ = _ by rw [HK.out, if_pos ⟨rfl, hl⟩, if_pos ⟨rfl, hr⟩]
      clear HK
      have hll9 : Hid (ll = (x : Int)) := hl
      clear hl
      have hrr9 : Hid (rr = (x : Int)) := hr
      clear hr
      go_wp2
      go_roundw
      case rel => exact ⟨i + 1, by omega, by go_num, by rw [HK2.out]; go_num, BB⟩
      case measure => simp [intOf]; omega
     ·have hrb : (rr == (x : Int)) = false := by simp [hr]
      have HK2 : Hid (par t x (i + 1) = pc + 1) := show _ = _ by rw [HK.out, if_pos ⟨rfl, hl⟩, if_neg (fun h => hr h.2)]
      clear HK
      have hll9 : Hid (ll = (x : Int)) := hl
      clear hl
      go_wp2
      go_roundw
      case rel => exact ⟨i + 1, by omega, by go_num, by rw [HK2.out]; go_num, BB⟩
      case measure => simp [intOf]; omega
    ·have hlb : (ll == (x : Int)) = false := by simp [hl]
     by_cases hr : rr = (x : Int)
     ·have hrb : (rr == (x : Int)) = true := by simp [hr]
      have HK2 : Hid (par t x (i + 1) = pc + 1) := show _ = _ by rw [HK.out, if_neg (fun h => hl h.2), if_pos ⟨rfl, hr⟩]
      clear HK
      have hrr9 : Hid (rr = (x : Int)) := hr
      clear hr
      go_wp2
      go_roundw
      case rel => exact ⟨i + 1, by omega, by go_num, by rw [HK2.out]; go_num, BB⟩
      case measure => simp [intOf]; omega
     ·have hrb : (rr == (x : Int)) = false := by simp [hr]
      have HK2 : Hid (par t x (i + 1) = pc + 0) := show _ = _ by rw [HK.out, if_neg (fun h => hl h.2), if_neg (fun h => hr h.2)]
      clear HK
      go_wp2
      go_roundw
      case rel => exact ⟨i + 1, by omega, by go_num, by rw [HK2.out]; go_num, BB⟩
      case measure => simp [intOf]; omega
   ·have HK2 : Hid (par t x (i + 1) = pc + 0) := show _ = _ by rw [HK.out, if_neg (fun h => absurd h.1 (by decide)), if_neg (fun h => absurd h.1 (by decide))]
    clear HK
    go_wp2
    go_roundw
    case rel => exact ⟨i + 1, by omega, by go_num, by rw [HK2.out]; go_num, BB⟩
    case measure => simp [intOf]; omega
  ·obtain rfl : i = n := by omega
   have g1 : ¬ (i : Int) < (i : Int) := by omega
   go_wp2
   go_ret
   exact ⟨rfl, BB⟩


set_option maxRecDepth 100000 in
set_option maxHeartbeats 8000000 in
theorem lreached_at (v : Value) (n x : Nat) (t : Nat → Nd) (L : Nat) (w : World) (hv : TRow w v n t L) (hn : n ≤ 255) (hx : x < n) :
  Calls Tryz.prog 66 #[v, .int .i64 (x : Int)] w fun e w' => e = .returned (.bool (lawUp t n (n + 1) x)) ∧ Below w.heap.size w w' := by
 obtain ⟨ao, c, rfl, hnc, hc63⟩ := hv.open
 have BB : Below w.heap.size w w := Below.refl _ _
 go_enter Tryz.func66, Tryz.ntmps66
 go_wp2
 go_loopw [1, 5] (fun va vk wr => ∃ k y : Nat, k ≤ n + 1 ∧ y < n ∧ vk = .int .i64 (k : Int) ∧ va = .int .i64 (y : Int) ∧ Hid (lawUp t n (n + 1) x = lawUp t n (n + 1 - k) y) ∧ Below w.heap.size w wr) (fun _ vk _ => n + 1 - (intOf vk).toNat)
 case atStart => exact ⟨0, x, by omega, hx, rfl, rfl, rfl, BB⟩
 case round =>
  clear BB
  obtain ⟨k, y, hk, hy, rfl, rfl, HU, BB⟩ := hrel
  by_cases hlt : k ≤ n
  ·have g1 : (k : Int) ≤ (n : Int) := by omega
   obtain ⟨m, hm⟩ : ∃ m, n + 1 - k = m + 1 := ⟨n - k, by omega⟩
   have HM : Hid (n + 1 - k = m + 1) := hm
   rw [hm] at HU
   clear hm
   by_cases hy0 : y = 0
   ·have HR : Hid (true = lawUp t n (n + 1) x) := show _ = _ by rw [HU.out, hy0]; rfl
    subst hy0
    go_wp2
    go_ret
    exact ⟨ret_bool HR.out, BB⟩
   ·have h0 : ¬ (y : Int) = 0 := by omega
    have h0b : ((y : Int) == 0) = false := by simp; omega
    have HS : Hid (lawUp t n (m + 1) y = match upOf t y n with | none => false | some p => lawUp t n m p) := by
     show (if y = 0 then true else _) = _
     rw [if_neg hy0]
     rfl
    obtain ⟨wo, rfl⟩ : ∃ wo, wo = wr := ⟨_, rfl⟩
    go_wp2
    go_loopw [6, 7] (fun vu vi wr => ∃ i : Nat, i ≤ n ∧ vi = .int .i64 (i : Int) ∧ vu = upV (upOf t y i) ∧ Below w.heap.size w wr) (fun _ vi _ => n - (intOf vi).toNat)
    case atStart => exact ⟨0, by omega, rfl, rfl, BB⟩
    case round =>
     clear BB
     obtain ⟨i, hi, rfl, rfl, BB⟩ := hrel
     by_cases hlt2 : i < n
     ·have g2 : (i : Int) < (n : Int) := by omega
      have g3 : (0 : Int) ≤ (i : Int) := by omega
      have hv1 := hv.below BB
      obtain ⟨b, off, cc, p1, a1, n1, c1, b1, m1, d1, p2, a2, n2, c2, b2, m2, d2, p3, a3, n3, c3, b3, m3, d3, hvv, hcc, hc6, NN, r1, r2, r3, i1, i2, i3⟩ := hv1.at hlt2
      cases hvv
      clear hv1 r1 r2 r3 i1 i2 i3
      have HK : Hid (upOf t y (i + 1) = if (t i).leaf = false ∧ ((t i).left = (y : Int) ∨ (t i).right = (y : Int)) then some i else upOf t y i) := rfl
      obtain ⟨lf, hlf⟩ : ∃ z, (t i).leaf = z := ⟨_, rfl⟩
      obtain ⟨ll, hll⟩ : ∃ z, (t i).left = z := ⟨_, rfl⟩
      obtain ⟨rr, hrr⟩ : ∃ z, (t i).right = z := ⟨_, rfl⟩
      rw [hlf, hll, hrr] at HK
      rw [hlf, hll, hrr] at NN
      clear hlf hll hrr
      generalize (t i).miss = ms at NN
      generalize (t i).feat = ft at NN
      obtain ⟨uo, huo⟩ : ∃ z, upOf t y i = z := ⟨_, rfl⟩
      rw [huo] at HK ⊢
      clear huo
      obtain ⟨uv, huv⟩ : ∃ z, upV uo = z := ⟨_, rfl⟩
      have HUV : Hid (upV uo = uv) := huv
      rw [huv]
      clear huv
      obtain ⟨N_0, N_1, N_2, N_3, N_4, N_5, N_6, N_7, N_8, N_9, N_10, N_11, N_12, N_13⟩ := NN
      cases lf
      ·by_cases hl : ll = (y : Int)
       ·have hlb : (ll == (y : Int)) = true := by simp [hl]
        have HK2 : Hid (upOf t y (i + 1) = some i) := show _ = _ by rw [HK.out, if_pos ⟨rfl, .inl hl⟩]
        clear HK
        have hl9 : Hid (ll = (y : Int)) := hl
        clear hl
        go_wp2
        go_roundw
        case rel => exact ⟨i + 1, by omega, by go_num, by rw [HK2.out]; rfl, BB⟩
        case measure => simp [intOf]; omega
       ·have hlb : (ll == (y : Int)) = false := by simp [hl]
        by_cases hr : rr = (y : Int)
        ·have hrb : (rr == (y : Int)) = true := by simp [hr]
         have HK2 : Hid (upOf t y (i + 1) = some i) := show _ = _ by rw [HK.out, if_pos ⟨rfl, .inr hr⟩]
         clear HK
         have hr9 : Hid (rr = (y : Int)) := hr
         clear hr
         go_wp2
         go_roundw
         case rel => exact ⟨i + 1, by omega, by go_num, by rw [HK2.out]; rfl, BB⟩
         case measure => simp [intOf]; omega
        ·have hrb : (rr == (y : Int)) = false := by simp [hr]
         have HK2 : Hid (upOf t y (i + 1) = uo) := show _ = _ by rw [HK.out, if_neg (fun h => h.2.elim hl hr)]
         clear HK
         go_wp2
         go_roundw
         case rel => exact ⟨i + 1, by omega, by go_num, by rw [HK2.out]; exact HUV.out.symm, BB⟩
         case measure => simp [intOf]; omega
      ·have HK2 : Hid (upOf t y (i + 1) = uo) := show _ = _ by rw [HK.out, if_neg (fun h => absurd h.1 (by decide))]
       clear HK
       go_wp2
       go_roundw
       case rel => exact ⟨i + 1, by omega, by go_num, by rw [HK2.out]; exact HUV.out.symm, BB⟩
       case measure => simp [intOf]; omega
     ·obtain rfl : i = n := by omega
      have g2 : ¬ (i : Int) < (i : Int) := by omega
      cases huo : upOf t y i
      ·have HR : Hid (false = lawUp t i (i + 1) x) := show _ = _ by rw [HU.out, HS.out, huo]
       clear HU HS huo
       rw [show upV none = .int .i64 (-1) from rfl]
       go_wp2
       go_ret
       exact ⟨ret_bool HR.out, BB⟩
      ·rename_i p
       have hp := upOf_lt huo
       have HR : Hid (lawUp t i (i + 1) x = lawUp t i (i + 1 - (k + 1)) p) := show _ = _ by rw [HU.out, HS.out, huo]; show lawUp t i m p = _; rw [show i + 1 - (k + 1) = m by have := HM.out; omega]
       clear HU HS huo HM
       rw [show upV (some p) = .int .i64 (p : Int) from rfl]
       have p0 : ¬ (p : Int) < 0 := by omega
       go_wp2
       go_roundw
       case rel => exact ⟨k + 1, p, by omega, hp, by go_num, rfl, HR, BB⟩
       case measure => simp [intOf]; omega
  ·have g1 : ¬ (k : Int) ≤ (n : Int) := by omega
   have HR : Hid (false = lawUp t n (n + 1) x) := show _ = _ by rw [HU.out, show n + 1 - k = 0 by omega]; rfl
   clear HU
   go_wp2
   go_ret
   exact ⟨ret_bool HR.out, BB⟩

def rpV (e : Int) : Option Nat → Value
 | none => .tuple #[.int .i64 (-1), .int .i64 0]
 | some i => .tuple #[.int .i64 (i : Int), .int .i64 e]
theorem rpV_some {p : Nat → Bool} {n i : Nat} {e : Int} (hi : i < n) (h : ∀ j, j < i → p j = false) (hp : p i = true) : rpV e (fb p n) = .tuple #[.int .i64 (i : Int), .int .i64 e] := by rw [fb_some hi h hp]; rfl
theorem rpV_none {p : Nat → Bool} {n : Nat} {e : Int} (h : ∀ j, j < n → p j = false) : rpV e (fb p n) = .tuple #[.int .i64 (-1), .int .i64 0] := by rw [fb_none h]; rfl


set_option maxRecDepth 100000 in
set_option maxHeartbeats 8000000 in
theorem lrule0_at (v : Value) (n : Nat) (t : Nat → Nd) (F : Int) (L : Nat) (w : World) (hv : TRow w v n t L) (hn : n ≤ 255) :
  Calls Tryz.prog 37 #[v, .int .i64 F, .int .i64 0] w fun e w' => e = .returned (rpV 8 (fb (bad0 F t n) n)) ∧ Below w.heap.size w w' := by
 obtain ⟨ao, c, rfl, hnc, hc63⟩ := hv.open
 have BB : Below w.heap.size w w := Below.refl _ _
 go_enter Tryz.func37, Tryz.ntmps37
 go_wp2
 go_loopw [8] (fun vi wr => ∃ i : Nat, i ≤ n ∧ vi = .int .i64 (i : Int) ∧ Hid (∀ j, j < i → (bad0 F t n) j = false) ∧ Below w.heap.size w wr) (fun vi _ => n - (intOf vi).toNat)
 case atStart => exact ⟨0, by omega, rfl, fun j hj => by omega, BB⟩
 case round =>
  clear BB
  obtain ⟨i, hi, rfl, HB, BB⟩ := hrel
  by_cases hlt : i < n
  ·have g1 : (i : Int) < (n : Int) := by omega
   have g0 : (0 : Int) ≤ (i : Int) := by omega
   have hv1 := hv.below BB
   obtain ⟨b, off, cc, p1, a1, n1, c1, b1, m1, d1, p2, a2, n2, c2, b2, m2, d2, p3, a3, n3, c3, b3, m3, d3, hvv, hcc, hc6, NN, r1, r2, r3, i1, i2, i3⟩ := hv1.at hlt
   cases hvv
   clear hv1 r1 r2 r3 i1 i2 i3
   have HP : Hid (bad0 F t n i = (!(t i).leaf && (decide ((t i).feat ≥ F) || decide ((t i).left < 1) || decide ((t i).left ≥ (n : Int)) || decide ((t i).right < 1) || decide ((t i).right ≥ (n : Int))))) := rfl
   obtain ⟨lf, hlf⟩ : ∃ z, (t i).leaf = z := ⟨_, rfl⟩
   obtain ⟨ft, hft⟩ : ∃ z, (t i).feat = z := ⟨_, rfl⟩
   obtain ⟨ll, hll⟩ : ∃ z, (t i).left = z := ⟨_, rfl⟩
   obtain ⟨rr, hrr⟩ : ∃ z, (t i).right = z := ⟨_, rfl⟩
   rw [hlf, hft, hll, hrr] at HP NN
   clear hlf hft hll hrr
   generalize (t i).miss = ms at NN
   cases lf
   ·by_cases h1 : ft ≥ F
    ·have h1b : decide (ft ≥ F) = true := decide_eq_true h1
     obtain ⟨N_0, N_1, N_2, N_3, N_4, N_5, N_6, N_7, N_8, N_9, N_10, N_11, N_12, N_13⟩ := id NN
     obtain ⟨W1, rfl, hS1, hL1, VN, FN⟩ := V14.lay wr 46 (.bool false) (.int .i64 ft) (.bool p1) (.slice a1 n1 c1) (.slice b1 m1 d1) (.int .i64 ll) (.int .i64 rr) (.bool ms) (.bool p2) (.slice a2 n2 c2) (.slice b2 m2 d2) (.bool p3) (.slice a3 n3 c3) (.slice b3 m3 d3)
     replace BB := BB.trans (hL1.mono BB.size)
     obtain ⟨V_0, V_1, V_2, V_3, V_4, V_5, V_6, V_7, V_8, V_9, V_10, V_11, V_12, V_13⟩ := id VN
     have hbad : bad0 F t n i = true := by rw [HP.out, h1b]; simp
     clear HP
     have HR : Hid (rpV 8 (fb (bad0 F t n) n) = .tuple #[.int .i64 (i : Int), .int .i64 8]) := rpV_some hlt HB.out hbad
     clear HB
     go_wp2
     go_ret2
     exact ⟨congrArg Ending.returned HR.out.symm, BB⟩
    ·have h1b : decide (ft ≥ F) = false := decide_eq_false h1
     by_cases h2 : ll < 1
     ·have h2b : decide (ll < 1) = true := decide_eq_true h2
      obtain ⟨N_0, N_1, N_2, N_3, N_4, N_5, N_6, N_7, N_8, N_9, N_10, N_11, N_12, N_13⟩ := id NN
      obtain ⟨W1, rfl, hS1, hL1, VN, FN⟩ := V14.lay wr 46 (.bool false) (.int .i64 ft) (.bool p1) (.slice a1 n1 c1) (.slice b1 m1 d1) (.int .i64 ll) (.int .i64 rr) (.bool ms) (.bool p2) (.slice a2 n2 c2) (.slice b2 m2 d2) (.bool p3) (.slice a3 n3 c3) (.slice b3 m3 d3)
      replace BB := BB.trans (hL1.mono BB.size)
      obtain ⟨V_0, V_1, V_2, V_3, V_4, V_5, V_6, V_7, V_8, V_9, V_10, V_11, V_12, V_13⟩ := id VN
      have hbad : bad0 F t n i = true := by rw [HP.out, h1b, h2b]; simp
      clear HP
      have HR : Hid (rpV 8 (fb (bad0 F t n) n) = .tuple #[.int .i64 (i : Int), .int .i64 8]) := rpV_some hlt HB.out hbad
      clear HB
      go_wp2
      go_ret2
      exact ⟨congrArg Ending.returned HR.out.symm, BB⟩
     ·have h2b : decide (ll < 1) = false := decide_eq_false h2
      by_cases h3 : ll ≥ (n : Int)
      ·have h3b : decide (ll ≥ (n : Int)) = true := decide_eq_true h3
       obtain ⟨N_0, N_1, N_2, N_3, N_4, N_5, N_6, N_7, N_8, N_9, N_10, N_11, N_12, N_13⟩ := id NN
       obtain ⟨W1, rfl, hS1, hL1, VN, FN⟩ := V14.lay wr 46 (.bool false) (.int .i64 ft) (.bool p1) (.slice a1 n1 c1) (.slice b1 m1 d1) (.int .i64 ll) (.int .i64 rr) (.bool ms) (.bool p2) (.slice a2 n2 c2) (.slice b2 m2 d2) (.bool p3) (.slice a3 n3 c3) (.slice b3 m3 d3)
       replace BB := BB.trans (hL1.mono BB.size)
       obtain ⟨V_0, V_1, V_2, V_3, V_4, V_5, V_6, V_7, V_8, V_9, V_10, V_11, V_12, V_13⟩ := id VN
       have hbad : bad0 F t n i = true := by rw [HP.out, h1b, h2b, h3b]; simp
       clear HP
       have HR : Hid (rpV 8 (fb (bad0 F t n) n) = .tuple #[.int .i64 (i : Int), .int .i64 8]) := rpV_some hlt HB.out hbad
       clear HB
       go_wp2
       go_ret2
       exact ⟨congrArg Ending.returned HR.out.symm, BB⟩
      ·have h3b : decide (ll ≥ (n : Int)) = false := decide_eq_false h3
       by_cases h4 : rr < 1
       ·have h4b : decide (rr < 1) = true := decide_eq_true h4
        obtain ⟨N_0, N_1, N_2, N_3, N_4, N_5, N_6, N_7, N_8, N_9, N_10, N_11, N_12, N_13⟩ := id NN
        obtain ⟨W1, rfl, hS1, hL1, VN, FN⟩ := V14.lay wr 46 (.bool false) (.int .i64 ft) (.bool p1) (.slice a1 n1 c1) (.slice b1 m1 d1) (.int .i64 ll) (.int .i64 rr) (.bool ms) (.bool p2) (.slice a2 n2 c2) (.slice b2 m2 d2) (.bool p3) (.slice a3 n3 c3) (.slice b3 m3 d3)
        replace BB := BB.trans (hL1.mono BB.size)
        obtain ⟨V_0, V_1, V_2, V_3, V_4, V_5, V_6, V_7, V_8, V_9, V_10, V_11, V_12, V_13⟩ := id VN
        have hbad : bad0 F t n i = true := by rw [HP.out, h1b, h2b, h3b, h4b]; simp
        clear HP
        have HR : Hid (rpV 8 (fb (bad0 F t n) n) = .tuple #[.int .i64 (i : Int), .int .i64 8]) := rpV_some hlt HB.out hbad
        clear HB
        go_wp2
        go_ret2
        exact ⟨congrArg Ending.returned HR.out.symm, BB⟩
       ·have h4b : decide (rr < 1) = false := decide_eq_false h4
        by_cases h5 : rr ≥ (n : Int)
        ·have h5b : decide (rr ≥ (n : Int)) = true := decide_eq_true h5
         obtain ⟨N_0, N_1, N_2, N_3, N_4, N_5, N_6, N_7, N_8, N_9, N_10, N_11, N_12, N_13⟩ := id NN
         obtain ⟨W1, rfl, hS1, hL1, VN, FN⟩ := V14.lay wr 46 (.bool false) (.int .i64 ft) (.bool p1) (.slice a1 n1 c1) (.slice b1 m1 d1) (.int .i64 ll) (.int .i64 rr) (.bool ms) (.bool p2) (.slice a2 n2 c2) (.slice b2 m2 d2) (.bool p3) (.slice a3 n3 c3) (.slice b3 m3 d3)
         replace BB := BB.trans (hL1.mono BB.size)
         obtain ⟨V_0, V_1, V_2, V_3, V_4, V_5, V_6, V_7, V_8, V_9, V_10, V_11, V_12, V_13⟩ := id VN
         have hbad : bad0 F t n i = true := by rw [HP.out, h1b, h2b, h3b, h4b, h5b]; simp
         clear HP
         have HR : Hid (rpV 8 (fb (bad0 F t n) n) = .tuple #[.int .i64 (i : Int), .int .i64 8]) := rpV_some hlt HB.out hbad
         clear HB
         go_wp2
         go_ret2
         exact ⟨congrArg Ending.returned HR.out.symm, BB⟩
        ·have h5b : decide (rr ≥ (n : Int)) = false := decide_eq_false h5
         obtain ⟨N_0, N_1, N_2, N_3, N_4, N_5, N_6, N_7, N_8, N_9, N_10, N_11, N_12, N_13⟩ := id NN
         obtain ⟨W1, rfl, hS1, hL1, VN, FN⟩ := V14.lay wr 46 (.bool false) (.int .i64 ft) (.bool p1) (.slice a1 n1 c1) (.slice b1 m1 d1) (.int .i64 ll) (.int .i64 rr) (.bool ms) (.bool p2) (.slice a2 n2 c2) (.slice b2 m2 d2) (.bool p3) (.slice a3 n3 c3) (.slice b3 m3 d3)
         replace BB := BB.trans (hL1.mono BB.size)
         obtain ⟨V_0, V_1, V_2, V_3, V_4, V_5, V_6, V_7, V_8, V_9, V_10, V_11, V_12, V_13⟩ := id VN
         have hbad : bad0 F t n i = false := by rw [HP.out, h1b, h2b, h3b, h4b, h5b]; rfl
         clear HP
         have HB2 : Hid (∀ j, j < i + 1 → (bad0 F t n) j = false) := fun j hj => by
          by_cases e : j = i
          ·subst e; exact hbad
          ·exact HB.out j (by omega)
         clear HB
         go_wp2
         go_roundw
         case rel => exact ⟨i + 1, by omega, by go_num, HB2, BB⟩
         case measure => simp [intOf]; omega
   ·obtain ⟨N_0, N_1, N_2, N_3, N_4, N_5, N_6, N_7, N_8, N_9, N_10, N_11, N_12, N_13⟩ := id NN
    obtain ⟨W1, rfl, hS1, hL1, VN, FN⟩ := V14.lay wr 46 (.bool true) (.int .i64 ft) (.bool p1) (.slice a1 n1 c1) (.slice b1 m1 d1) (.int .i64 ll) (.int .i64 rr) (.bool ms) (.bool p2) (.slice a2 n2 c2) (.slice b2 m2 d2) (.bool p3) (.slice a3 n3 c3) (.slice b3 m3 d3)
    replace BB := BB.trans (hL1.mono BB.size)
    obtain ⟨V_0, V_1, V_2, V_3, V_4, V_5, V_6, V_7, V_8, V_9, V_10, V_11, V_12, V_13⟩ := id VN
    have hbad : bad0 F t n i = false := by rw [HP.out]; rfl
    clear HP
    have HB2 : Hid (∀ j, j < i + 1 → (bad0 F t n) j = false) := fun j hj => by
     by_cases e : j = i
     ·subst e; exact hbad
     ·exact HB.out j (by omega)
    clear HB
    go_wp2
    go_roundw
    case rel => exact ⟨i + 1, by omega, by go_num, HB2, BB⟩
    case measure => simp [intOf]; omega
  ·obtain rfl : i = n := by omega
   have g1 : ¬ (i : Int) < (i : Int) := by omega
   have HR : Hid (rpV 8 (fb (bad0 F t i) i) = .tuple #[.int .i64 (-1), .int .i64 0]) := rpV_none HB.out
   go_wp2
   go_ret2
   exact ⟨congrArg Ending.returned HR.out.symm, BB⟩


set_option maxRecDepth 100000 in
set_option maxHeartbeats 8000000 in
theorem lrule1_at (v : Value) (n : Nat) (t : Nat → Nd) (F : Int) (L : Nat) (w : World) (hv : TRow w v n t L) (hn : n ≤ 255) :
  Calls Tryz.prog 37 #[v, .int .i64 F, .int .i64 1] w fun e w' => e = .returned (rpV 11 (fb (bad1 t n) n)) ∧ Below w.heap.size w w' := by
 obtain ⟨ao, c, rfl, hnc, hc63⟩ := hv.open
 have BB : Below w.heap.size w w := Below.refl _ _
 go_enter Tryz.func37, Tryz.ntmps37
 go_wp2
 go_loopw [8] (fun vi wr => ∃ i : Nat, i ≤ n ∧ vi = .int .i64 (i : Int) ∧ Hid (∀ j, j < i → (bad1 t n) j = false) ∧ Below w.heap.size w wr) (fun vi _ => n - (intOf vi).toNat)
 case atStart => exact ⟨0, by omega, rfl, fun j hj => by omega, BB⟩
 case round =>
  clear BB
  obtain ⟨i, hi, rfl, HB, BB⟩ := hrel
  by_cases hlt : i < n
  ·have g1 : (i : Int) < (n : Int) := by omega
   have g0 : (0 : Int) ≤ (i : Int) := by omega
   have hv1 := hv.below BB
   obtain ⟨b, off, cc, p1, a1, n1, c1, b1, m1, d1, p2, a2, n2, c2, b2, m2, d2, p3, a3, n3, c3, b3, m3, d3, hvv, hcc, hc6, NN, r1, r2, r3, i1, i2, i3⟩ := hv1.at hlt
   cases hvv
   clear r1 r2 r3 i1 i2 i3
   have HP : Hid (bad1 t n i = (decide (1 ≤ i) && decide (par t i n ≠ 1))) := rfl
   by_cases hi0 : i = 0
   ·have hbad : bad1 t n i = false := by rw [HP.out, decide_eq_false (show ¬ 1 ≤ i by omega)]; rfl
    have h0 : ¬ (i : Int) > 0 := by omega
    have h0b : decide ((i : Int) > 0) = false := decide_eq_false h0
    have h0n : ¬ 0 < i := by omega
    have HI0 : Hid (i = 0) := hi0
    clear hi0 HP hv1
    obtain ⟨N_0, N_1, N_2, N_3, N_4, N_5, N_6, N_7, N_8, N_9, N_10, N_11, N_12, N_13⟩ := id NN
    obtain ⟨W1, rfl, hS1, hL1, VN, FN⟩ := V14.lay wr 46 (.bool (t i).leaf) (.int .i64 (t i).feat) (.bool p1) (.slice a1 n1 c1) (.slice b1 m1 d1) (.int .i64 (t i).left) (.int .i64 (t i).right) (.bool (t i).miss) (.bool p2) (.slice a2 n2 c2) (.slice b2 m2 d2) (.bool p3) (.slice a3 n3 c3) (.slice b3 m3 d3)
    replace BB := BB.trans (hL1.mono BB.size)
    obtain ⟨V_0, V_1, V_2, V_3, V_4, V_5, V_6, V_7, V_8, V_9, V_10, V_11, V_12, V_13⟩ := id VN
    have HB2 : Hid (∀ j, j < i + 1 → (bad1 t n) j = false) := fun j hj => by
     by_cases e : j = i
     ·subst e; exact hbad
     ·exact HB.out j (by omega)
    clear HB
    go_wp2
    go_roundw
    case rel => exact ⟨i + 1, by omega, by go_num, HB2, BB⟩
    case measure => simp [intOf]; omega
   ·have h0 : (i : Int) > 0 := by omega
    have h0b : decide ((i : Int) > 0) = true := decide_eq_true h0
    obtain ⟨N_0, N_1, N_2, N_3, N_4, N_5, N_6, N_7, N_8, N_9, N_10, N_11, N_12, N_13⟩ := id NN
    obtain ⟨W1, hW1, hS1, hL1, VN, FN⟩ := V14.lay wr 46 (.bool (t i).leaf) (.int .i64 (t i).feat) (.bool p1) (.slice a1 n1 c1) (.slice b1 m1 d1) (.int .i64 (t i).left) (.int .i64 (t i).right) (.bool (t i).miss) (.bool p2) (.slice a2 n2 c2) (.slice b2 m2 d2) (.bool p3) (.slice a3 n3 c3) (.slice b3 m3 d3)
    replace hv1 := hv1.below hL1
    replace BB := BB.trans (hL1.mono BB.size)
    clear hL1
    obtain ⟨V_0, V_1, V_2, V_3, V_4, V_5, V_6, V_7, V_8, V_9, V_10, V_11, V_12, V_13⟩ := id VN
    rw [hW1] at V_0 V_1 V_2 V_3 V_4 V_5 V_6 V_7 V_8 V_9 V_10 V_11 V_12 V_13
    go_wp2_with fail
    clear V_0 V_1 V_2 V_3 V_4 V_5 V_6 V_7 V_8 V_9 V_10 V_11 V_12 V_13
    clear N_0 N_1 N_2 N_3 N_4 N_5 N_6 N_7 N_8 N_9 N_10 N_11 N_12 N_13
    rw [← hW1]
    generalize wr.heap.size = R1 at *
    clear hW1 hS1
    refine (lparents_at _ n i t L _ hv1 hn).mono ?_
    rintro e w1 ⟨rfl, b1⟩
    replace hv1 := hv1.below b1
    replace BB := BB.trans (b1.mono BB.size)
    clear b1
    have hpb := par_le t i n
    by_cases hp : par t i n = 1
    ·have hbad : bad1 t n i = false := by rw [HP.out, hp]; simp
     clear HP
     rw [hp]
     have HPP : Hid (par t i n = 1) := hp
     clear hp
     have HB2 : Hid (∀ j, j < i + 1 → (bad1 t n) j = false) := fun j hj => by
      by_cases e : j = i
      ·subst e; exact hbad
      ·exact HB.out j (by omega)
     clear HB
     go_wp2
     go_roundw
     case rel => exact ⟨i + 1, by omega, by go_num, HB2, BB⟩
     case measure => simp [intOf]; omega
    ·have hbad : bad1 t n i = true := by rw [HP.out, decide_eq_true hp, decide_eq_true (show 1 ≤ i by omega)]; rfl
     clear HP
     have hpi : ¬ ((par t i n : Nat) : Int) = 1 := by omega
     have hpb2 : (((par t i n : Nat) : Int) != 1) = true := by simp; omega
     have HR : Hid (rpV 11 (fb (bad1 t n) n) = .tuple #[.int .i64 (i : Int), .int .i64 11]) := rpV_some hlt HB.out hbad
     clear HB
     go_wp2
     go_ret2
     exact ⟨congrArg Ending.returned HR.out.symm, BB⟩
  ·obtain rfl : i = n := by omega
   have g1 : ¬ (i : Int) < (i : Int) := by omega
   have HR : Hid (rpV 11 (fb (bad1 t i) i) = .tuple #[.int .i64 (-1), .int .i64 0]) := rpV_none HB.out
   go_wp2
   go_ret2
   exact ⟨congrArg Ending.returned HR.out.symm, BB⟩


set_option maxRecDepth 100000 in
set_option maxHeartbeats 8000000 in
theorem lrule2_at (v : Value) (n : Nat) (t : Nat → Nd) (F : Int) (L : Nat) (w : World) (hv : TRow w v n t L) (hn : n ≤ 255) :
  Calls Tryz.prog 37 #[v, .int .i64 F, .int .i64 2] w fun e w' => e = .returned (rpV 11 (fb (bad2 t n) n)) ∧ Below w.heap.size w w' := by
 obtain ⟨ao, c, rfl, hnc, hc63⟩ := hv.open
 have BB : Below w.heap.size w w := Below.refl _ _
 go_enter Tryz.func37, Tryz.ntmps37
 go_wp2
 go_loopw [8] (fun vi wr => ∃ i : Nat, i ≤ n ∧ vi = .int .i64 (i : Int) ∧ Hid (∀ j, j < i → (bad2 t n) j = false) ∧ Below w.heap.size w wr) (fun vi _ => n - (intOf vi).toNat)
 case atStart => exact ⟨0, by omega, rfl, fun j hj => by omega, BB⟩
 case round =>
  clear BB
  obtain ⟨i, hi, rfl, HB, BB⟩ := hrel
  by_cases hlt : i < n
  ·have g1 : (i : Int) < (n : Int) := by omega
   have g0 : (0 : Int) ≤ (i : Int) := by omega
   have hv1 := hv.below BB
   obtain ⟨b, off, cc, p1, a1, n1, c1, b1, m1, d1, p2, a2, n2, c2, b2, m2, d2, p3, a3, n3, c3, b3, m3, d3, hvv, hcc, hc6, NN, r1, r2, r3, i1, i2, i3⟩ := hv1.at hlt
   cases hvv
   clear r1 r2 r3 i1 i2 i3
   have HP : Hid (bad2 t n i = !lawUp t n (n + 1) i) := rfl
   obtain ⟨N_0, N_1, N_2, N_3, N_4, N_5, N_6, N_7, N_8, N_9, N_10, N_11, N_12, N_13⟩ := id NN
   obtain ⟨W1, hW1, hS1, hL1, VN, FN⟩ := V14.lay wr 46 (.bool (t i).leaf) (.int .i64 (t i).feat) (.bool p1) (.slice a1 n1 c1) (.slice b1 m1 d1) (.int .i64 (t i).left) (.int .i64 (t i).right) (.bool (t i).miss) (.bool p2) (.slice a2 n2 c2) (.slice b2 m2 d2) (.bool p3) (.slice a3 n3 c3) (.slice b3 m3 d3)
   replace hv1 := hv1.below hL1
   replace BB := BB.trans (hL1.mono BB.size)
   clear hL1
   obtain ⟨V_0, V_1, V_2, V_3, V_4, V_5, V_6, V_7, V_8, V_9, V_10, V_11, V_12, V_13⟩ := id VN
   rw [hW1] at V_0 V_1 V_2 V_3 V_4 V_5 V_6 V_7 V_8 V_9 V_10 V_11 V_12 V_13
   go_wp2_with fail
   clear V_0 V_1 V_2 V_3 V_4 V_5 V_6 V_7 V_8 V_9 V_10 V_11 V_12 V_13
   clear N_0 N_1 N_2 N_3 N_4 N_5 N_6 N_7 N_8 N_9 N_10 N_11 N_12 N_13
   rw [← hW1]
   generalize wr.heap.size = R1 at *
   clear hW1 hS1
   refine (lreached_at _ n i t L _ hv1 hn hlt).mono ?_
   rintro e w1 ⟨rfl, b1⟩
   replace hv1 := hv1.below b1
   replace BB := BB.trans (b1.mono BB.size)
   clear b1
   obtain ⟨lu, hlu⟩ : ∃ z, lawUp t n (n + 1) i = z := ⟨_, rfl⟩
   rw [hlu] at HP ⊢
   clear hlu
   cases lu
   ·have hbad : bad2 t n i = true := by rw [HP.out]; rfl
    clear HP
    have HR : Hid (rpV 11 (fb (bad2 t n) n) = .tuple #[.int .i64 (i : Int), .int .i64 11]) := rpV_some hlt HB.out hbad
    clear HB
    go_wp2
    go_ret2
    exact ⟨congrArg Ending.returned HR.out.symm, BB⟩
   ·have hbad : bad2 t n i = false := by rw [HP.out]; rfl
    clear HP
    have HB2 : Hid (∀ j, j < i + 1 → (bad2 t n) j = false) := fun j hj => by
     by_cases e : j = i
     ·subst e; exact hbad
     ·exact HB.out j (by omega)
    clear HB
    go_wp2
    go_roundw
    case rel => exact ⟨i + 1, by omega, by go_num, HB2, BB⟩
    case measure => simp [intOf]; omega
  ·obtain rfl : i = n := by omega
   have g1 : ¬ (i : Int) < (i : Int) := by omega
   have HR : Hid (rpV 11 (fb (bad2 t i) i) = .tuple #[.int .i64 (-1), .int .i64 0]) := rpV_none HB.out
   go_wp2
   go_ret2
   exact ⟨congrArg Ending.returned HR.out.symm, BB⟩


set_option maxRecDepth 100000 in
set_option maxHeartbeats 8000000 in
theorem lrule3_at (v : Value) (n : Nat) (t : Nat → Nd) (F : Int) (L : Nat) (w : World) (hv : TRow w v n t L) (hn : n ≤ 255) (hL : 1 ≤ L) (hLM : L ≤ 100000) :
  Calls Tryz.prog 37 #[v, .int .i64 F, .int .i64 3] w fun e w' => e = .returned (rpV 12 (fb (bad3 t) n)) ∧ Below w.heap.size w w' := by
 obtain ⟨ao, c, rfl, hnc, hc63⟩ := hv.open
 have BB : Below w.heap.size w w := Below.refl _ _
 go_enter Tryz.func37, Tryz.ntmps37
 go_wp2
 go_loopw [8] (fun vi wr => ∃ i : Nat, i ≤ n ∧ vi = .int .i64 (i : Int) ∧ Hid (∀ j, j < i → (bad3 t) j = false) ∧ Below w.heap.size w wr) (fun vi _ => n - (intOf vi).toNat)
 case atStart => exact ⟨0, by omega, rfl, fun j hj => by omega, BB⟩
 case round =>
  clear BB
  obtain ⟨i, hi, rfl, HB, BB⟩ := hrel
  by_cases hlt : i < n
  ·have g1 : (i : Int) < (n : Int) := by omega
   have g0 : (0 : Int) ≤ (i : Int) := by omega
   have hv1 := hv.below BB
   obtain ⟨b, off, cc, p1, a1, n1, c1, b1, m1, d1, p2, a2, n2, c2, b2, m2, d2, p3, a3, n3, c3, b3, m3, d3, hvv, hcc, hc6, NN, r1, r2, r3, i1, i2, i3⟩ := hv1.at hlt
   cases hvv
   clear hv1 r1 r2 i1 i2 i3
   have HP : Hid (bad3 t i = decide ((t i).cov ≤ 0)) := rfl
   obtain ⟨N_0, N_1, N_2, N_3, N_4, N_5, N_6, N_7, N_8, N_9, N_10, N_11, N_12, N_13⟩ := id NN
   obtain ⟨W1, hW1, hS1, hL1, VN, FN⟩ := V14.lay wr 46 (.bool (t i).leaf) (.int .i64 (t i).feat) (.bool p1) (.slice a1 n1 c1) (.slice b1 m1 d1) (.int .i64 (t i).left) (.int .i64 (t i).right) (.bool (t i).miss) (.bool p2) (.slice a2 n2 c2) (.slice b2 m2 d2) (.bool p3) (.slice a3 n3 c3) (.slice b3 m3 d3)
   replace r3 := r3.below hL1
   replace BB := BB.trans (hL1.mono BB.size)
   clear hL1
   obtain ⟨V_0, V_1, V_2, V_3, V_4, V_5, V_6, V_7, V_8, V_9, V_10, V_11, V_12, V_13⟩ := id VN
   rw [hW1] at V_0 V_1 V_2 V_3 V_4 V_5 V_6 V_7 V_8 V_9 V_10 V_11 V_12 V_13
   go_wp2_with fail
   clear V_0 V_1 V_2 V_3 V_4 V_5 V_6 V_7 V_8 V_9 V_10 V_11 V_12 V_13
   clear N_0 N_1 N_2 N_3 N_4 N_5 N_6 N_7 N_8 N_9 N_10 N_11 N_12 N_13
   rw [← hW1]
   generalize wr.heap.size = R1 at *
   clear hW1 hS1
   refine (qsign_at _ (t i).cov L _ r3 hL hLM).mono ?_
   rintro e w1 ⟨rfl, b1⟩
   replace r3 := r3.below b1
   replace BB := BB.trans (b1.mono BB.size)
   clear b1
   have hcq := cmpQ_le (t i).cov 0
   obtain ⟨cq, hq⟩ : ∃ z, cmpQ (t i).cov 0 = z := ⟨_, rfl⟩
   rw [hq] at hcq
   rw [hq]
   have HCQ : Hid (decide (cq ≤ 0) = decide ((t i).cov ≤ 0)) := hcq
   clear hq hcq
   by_cases hc : cq ≤ 0
   ·have hcb : decide (cq ≤ 0) = true := decide_eq_true hc
    have hbad : bad3 t i = true := by rw [HP.out, ← HCQ.out]; exact hcb
    clear HP HCQ
    have HR : Hid (rpV 12 (fb (bad3 t) n) = .tuple #[.int .i64 (i : Int), .int .i64 12]) := rpV_some hlt HB.out hbad
    clear HB
    go_wp2
    go_ret2
    exact ⟨congrArg Ending.returned HR.out.symm, BB⟩
   ·have hcb : decide (cq ≤ 0) = false := decide_eq_false hc
    have hbad : bad3 t i = false := by rw [HP.out, ← HCQ.out]; exact hcb
    clear HP HCQ
    have HB2 : Hid (∀ j, j < i + 1 → (bad3 t) j = false) := fun j hj => by
     by_cases e : j = i
     ·subst e; exact hbad
     ·exact HB.out j (by omega)
    clear HB
    go_wp2
    go_roundw
    case rel => exact ⟨i + 1, by omega, by go_num, HB2, BB⟩
    case measure => simp [intOf]; omega
  ·obtain rfl : i = n := by omega
   have g1 : ¬ (i : Int) < (i : Int) := by omega
   have HR : Hid (rpV 12 (fb (bad3 t) i) = .tuple #[.int .i64 (-1), .int .i64 0]) := rpV_none HB.out
   go_wp2
   go_ret2
   exact ⟨congrArg Ending.returned HR.out.symm, BB⟩


set_option maxRecDepth 100000 in
set_option maxHeartbeats 8000000 in
theorem lrule4_at (v : Value) (n : Nat) (t : Nat → Nd) (F : Int) (L : Nat) (w : World) (hv : TRow w v n t L) (hn : n ≤ 255) (ht : Tab w) (hN : Named t n) (hL : 1 ≤ L) (hLM : L ≤ 30000) :
  Calls Tryz.prog 37 #[v, .int .i64 F, .int .i64 4] w fun e w' => e = .returned (rpV 13 (fb (bad4 t) n)) ∧ Below w.heap.size w w' := by
 obtain ⟨ao, c, rfl, hnc, hc63⟩ := hv.open
 have HN : Hid (Named t n) := hN
 clear hN
 have BB : Below w.heap.size w w := Below.refl _ _
 go_enter Tryz.func37, Tryz.ntmps37
 go_wp2
 go_loopw [8] (fun vi wr => ∃ i : Nat, i ≤ n ∧ vi = .int .i64 (i : Int) ∧ Hid (∀ j, j < i → (bad4 t) j = false) ∧ Below w.heap.size w wr) (fun vi _ => n - (intOf vi).toNat)
 case atStart => exact ⟨0, by omega, rfl, fun j hj => by omega, BB⟩
 case round =>
  clear BB
  obtain ⟨i, hi, rfl, HB, BB⟩ := hrel
  by_cases hlt : i < n
  ·have g1 : (i : Int) < (n : Int) := by omega
   have g0 : (0 : Int) ≤ (i : Int) := by omega
   have hv1 := hv.below BB
   obtain ⟨b, off, cc, p1, a1, n1, c1, b1, m1, d1, p2, a2, n2, c2, b2, m2, d2, p3, a3, n3, c3, b3, m3, d3, hvv, hcc, hc6, NN, r1, r2, r3, i1, i2, i3⟩ := hv1.at hlt
   cases hvv
   clear r1 r2 i1 i2 i3
   have HNI := HN.out i hlt
   obtain ⟨lf, hlf⟩ : ∃ z, (t i).leaf = z := ⟨_, rfl⟩
   obtain ⟨ft, hft⟩ : ∃ z, (t i).feat = z := ⟨_, rfl⟩
   obtain ⟨ll, hll⟩ : ∃ z, (t i).left = z := ⟨_, rfl⟩
   obtain ⟨rr, hrr⟩ : ∃ z, (t i).right = z := ⟨_, rfl⟩
   have HLF : Hid ((t i).leaf = lf) := hlf
   have HLL : Hid ((t i).left = ll) := hll
   have HRR : Hid ((t i).right = rr) := hrr
   rw [hlf, hll, hrr] at HNI
   rw [hlf, hft, hll, hrr] at NN
   clear hlf hft hll hrr
   generalize (t i).miss = ms at NN
   cases lf
   ·obtain ⟨n1_, n2_, n3_, n4_⟩ := HNI rfl
    obtain ⟨l, rfl⟩ : ∃ l : Nat, ll = (l : Int) := ⟨ll.toNat, by omega⟩
    obtain ⟨m, rfl⟩ : ∃ m : Nat, rr = (m : Int) := ⟨rr.toNat, by omega⟩
    have hl1 : l < n := by omega
    have hm1 : m < n := by omega
    have e1 : (0 : Int) ≤ (l : Int) := by omega
    have e2 : (l : Int) < (n : Int) := by omega
    have e3 : (0 : Int) ≤ (m : Int) := by omega
    have e4 : (m : Int) < (n : Int) := by omega
    clear HNI
    obtain ⟨bL, offL, ccL, p1L, a1L, n1L, c1L, b1L, m1L, d1L, p2L, a2L, n2L, c2L, b2L, m2L, d2L, p3L, a3L, n3L, c3L, b3L, m3L, d3L, hvvL, hccL, hc6L, NNL, r1L, r2L, r3L, i1L, i2L, i3L⟩ := hv1.at hl1
    cases hvvL
    obtain ⟨bM, offM, ccM, p1M, a1M, n1M, c1M, b1M, m1M, d1M, p2M, a2M, n2M, c2M, b2M, m2M, d2M, p3M, a3M, n3M, c3M, b3M, m3M, d3M, hvvM, hccM, hc6M, NNM, r1M, r2M, r3M, i1M, i2M, i3M⟩ := hv1.at hm1
    cases hvvM
    clear hv1 r1L r2L r1M r2M i1L i2L i3L i1M i2M i3M
    have HP : Hid (bad4 t i = !decide ((t i).cov = (t l).cov + (t m).cov)) := bad4_split HLF.out HLL.out HRR.out
    have sl := r3L.qsz hL
    have sm := r3M.qsz hL
    have sS : qsz ((t l).cov + (t m).cov) ≤ L + L + 1 := qsz_add _ _ sl sm
    clear HLF HLL HRR
    have ht1 := ht.below BB
    obtain ⟨N_0, N_1, N_2, N_3, N_4, N_5, N_6, N_7, N_8, N_9, N_10, N_11, N_12, N_13⟩ := id NN
    obtain ⟨W21, hW21, hS21, hL21, VN, FN⟩ := V14.lay wr 46 (.bool false) (.int .i64 ft) (.bool p1) (.slice a1 n1 c1) (.slice b1 m1 d1) (.int .i64 (l : Int)) (.int .i64 (m : Int)) (.bool ms) (.bool p2) (.slice a2 n2 c2) (.slice b2 m2 d2) (.bool p3) (.slice a3 n3 c3) (.slice b3 m3 d3)
    replace NNL := NNL.below hL21
    replace NNM := NNM.below hL21
    replace r3 := r3.below hL21
    replace r3L := r3L.below hL21
    replace r3M := r3M.below hL21
    replace ht1 := ht1.below hL21
    replace BB := BB.trans (hL21.mono BB.size)
    clear hL21
    obtain ⟨V_0, V_1, V_2, V_3, V_4, V_5, V_6, V_7, V_8, V_9, V_10, V_11, V_12, V_13⟩ := id VN
    rw [hW21] at V_0 V_1 V_2 V_3 V_4 V_5 V_6 V_7 V_8 V_9 V_10 V_11 V_12 V_13
    go_wp2
    clear V_0 V_1 V_2 V_3 V_4 V_5 V_6 V_7 V_8 V_9 V_10 V_11 V_12 V_13
    clear N_0 N_1 N_2 N_3 N_4 N_5 N_6 N_7 N_8 N_9 N_10 N_11 N_12 N_13
    rw [← hW21]
    generalize wr.heap.size = R21 at *
    clear hW21 hS21
    by_cases hq : (t i).cov = (t l).cov + (t m).cov
    ·have hDr : Below W21.heap.size W21 W21.drew := (Below.refl _ _).drew
     replace NNL := NNL.below hDr
     replace NNM := NNM.below hDr
     replace r3 := r3.below hDr
     replace r3L := r3L.below hDr
     replace r3M := r3M.below hDr
     replace ht1 := ht1.below hDr
     replace VN := VN.below hDr
     replace BB := BB.trans (hDr.mono BB.size)
     clear hDr
     refine wp_region_held_drew (S := (fun w' => w'.cell? ⟨R21, 0, none⟩ = some (.bool false) ∧ w'.cell? ⟨R21, 5, none⟩ = some (.int .i64 (l : Int)) ∧ w'.cell? ⟨R21, 6, none⟩ = some (.int .i64 (m : Int)) ∧ w'.cell? ⟨R21, 11, none⟩ = some (.bool p3) ∧ w'.cell? ⟨R21, 12, none⟩ = some (.slice a3 n3 c3) ∧ w'.cell? ⟨R21, 13, none⟩ = some (.slice b3 m3 d3) ∧ w'.cell? ⟨b, off + l * 14 + 11, none⟩ = some (.bool p3L) ∧ w'.cell? ⟨b, off + l * 14 + 12, none⟩ = some (.slice a3L n3L c3L) ∧ w'.cell? ⟨b, off + l * 14 + 13, none⟩ = some (.slice b3L m3L d3L) ∧ w'.cell? ⟨b, off + m * 14 + 11, none⟩ = some (.bool p3M) ∧ w'.cell? ⟨b, off + m * 14 + 12, none⟩ = some (.slice a3M n3M c3M) ∧ w'.cell? ⟨b, off + m * 14 + 13, none⟩ = some (.slice b3M m3M d3M))) (by kernel_rfl) ?_ (fun hHeld => ?_)
     ·exact ⟨VN.c0, VN.c5, VN.c6, VN.c11, VN.c12, VN.c13, NNL.c11, NNL.c12, NNL.c13, NNM.c11, NNM.c12, NNM.c13⟩
     generalize W21.drew = W22 at *
     refine wpAnyH_take (i := 0) (v := ?_) (by simp only [xL1, xL2, xL3]; rfl) (by kernel_rfl) (by kernel_rfl) (by kernel_rfl) (by exact fun _ _ _ h => h) (Or.inl ⟨by rfl, ?_⟩) (by assumption) ?_
     rotate_left
     ·(intro w hSw; (try dsimp only at hSw); go_simp; (try with_reducible rfl))
     (try simp only [Act.put, xL4, xL5, xL6])
     refine wpAnyH_take (i := 1) (v := ?_) (by simp only [xL1, xL2, xL3]; rfl) (by kernel_rfl) (by kernel_rfl) (by kernel_rfl) (by exact fun _ _ _ h => h) (Or.inl ⟨by rfl, ?_⟩) (by assumption) ?_
     rotate_left
     ·(intro w hSw; (try dsimp only at hSw); go_simp; (try with_reducible rfl))
     (try simp only [Act.put, xL4, xL5, xL6])
     refine wpAnyH_take (i := 2) (v := ?_) (by simp only [xL1, xL2, xL3]; rfl) (by kernel_rfl) (by kernel_rfl) (by kernel_rfl) (by exact fun _ _ _ h => h) (Or.inl ⟨by rfl, ?_⟩) (by assumption) ?_
     rotate_left
     ·(intro w hSw; (try dsimp only at hSw); go_simp; (try with_reducible rfl))
     (try simp only [Act.put, xL4, xL5, xL6])
     refine wpAnyH_take (i := 3) (v := ?_) (by simp only [xL1, xL2, xL3]; rfl) (by kernel_rfl) (by kernel_rfl) (by kernel_rfl) (by exact fun _ _ _ h => h) (Or.inl ⟨by rfl, ?_⟩) (by assumption) ?_
     rotate_left
     ·(intro w hSw; (try dsimp only at hSw); go_simp; (try with_reducible rfl))
     (try simp only [Act.put, xL4, xL5, xL6])
     refine wpAnyH_take (i := 4) (v := ?_) (by simp only [xL1, xL2, xL3]; rfl) (by kernel_rfl) (by kernel_rfl) (by kernel_rfl) (by exact fun _ _ _ h => h) (Or.inl ⟨by rfl, ?_⟩) (by assumption) ?_
     rotate_left
     ·(intro w hSw; (try dsimp only at hSw); go_simp; (try with_reducible rfl))
     (try simp only [Act.put, xL4, xL5, xL6])
     refine wpAnyH_take (i := 5) (v := ?_) (by simp only [xL1, xL2, xL3]; rfl) (by kernel_rfl) (by kernel_rfl) (by kernel_rfl) (by exact fun _ _ _ h => h) (Or.inl ⟨by rfl, ?_⟩) (by assumption) ?_
     rotate_left
     ·(intro w hSw; (try dsimp only at hSw); go_simp; (try with_reducible rfl))
     (try simp only [Act.put, xL4, xL5, xL6])
     refine wpAnyH_take (i := 6) (v := ?_) (by simp only [xL1, xL2, xL3]; rfl) (by kernel_rfl) (by kernel_rfl) (by kernel_rfl) (by exact fun _ _ _ h => h) (Or.inl ⟨by rfl, ?_⟩) (by assumption) ?_
     rotate_left
     ·(intro w hSw; (try dsimp only at hSw); go_simp; (try with_reducible rfl))
     (try simp only [Act.put, xL4, xL5, xL6])
     refine wpAnyH_take (i := 7) (v := ?_) (by simp only [xL1, xL2, xL3]; rfl) (by kernel_rfl) (by kernel_rfl) (by kernel_rfl) (by exact fun _ _ _ h => h) (Or.inl ⟨by rfl, ?_⟩) (by assumption) ?_
     rotate_left
     ·(intro w hSw; (try dsimp only at hSw); go_simp; (try with_reducible rfl))
     (try simp only [Act.put, xL4, xL5, xL6])
     refine wpAnyH_take (i := 8) (v := ?_) (by simp only [xL1, xL2, xL3]; rfl) (by kernel_rfl) (by kernel_rfl) (by kernel_rfl) (by exact fun _ _ _ h => h) (Or.inl ⟨by rfl, ?_⟩) (by assumption) ?_
     rotate_left
     ·(intro w hSw; (try dsimp only at hSw); go_simp; (try with_reducible rfl))
     (try simp only [Act.put, xL4, xL5, xL6])
     refine wpAnyH_take (i := 9) (v := ?_) (by simp only [xL1, xL2, xL3]; rfl) (by kernel_rfl) (by kernel_rfl) (by kernel_rfl) (by exact fun _ _ _ h => h) (Or.inl ⟨by rfl, ?_⟩) (by assumption) ?_
     rotate_left
     ·(intro w hSw; (try dsimp only at hSw); go_simp; (try with_reducible rfl))
     (try simp only [Act.put, xL4, xL5, xL6])
     refine wpAnyH_take (i := 10) (v := ?_) (by simp only [xL1, xL2, xL3]; rfl) (by kernel_rfl) (by kernel_rfl) (by kernel_rfl) (by exact fun _ _ _ h => h) (Or.inl ⟨by rfl, ?_⟩) (by assumption) ?_
     rotate_left
     ·(intro w hSw; (try dsimp only at hSw); go_simp; (try with_reducible rfl))
     (try simp only [Act.put, xL4, xL5, xL6])
     refine wpAnyH_take (i := 11) (v := ?_) (by simp only [xL1, xL2, xL3]; rfl) (by kernel_rfl) (by kernel_rfl) (by kernel_rfl) (by exact fun _ _ _ h => h) (Or.inl ⟨by rfl, ?_⟩) (by assumption) ?_
     rotate_left
     ·(intro w hSw; (try dsimp only at hSw); go_simp; (try with_reducible rfl))
     (try simp only [Act.put, xL4, xL5, xL6])
     refine wpAnyH_take (i := 12) (v := ?_) (by simp only [xL1, xL2, xL3]; rfl) (by kernel_rfl) (by kernel_rfl) (by kernel_rfl) (by exact fun _ _ _ h => h) (Or.inl ⟨by rfl, ?_⟩) (by assumption) ?_
     rotate_left
     ·(intro w hSw; (try dsimp only at hSw); go_simp; (try with_reducible rfl))
     (try simp only [Act.put, xL4, xL5, xL6])
     refine wpAnyH_take (i := 13) (v := ?_) (by simp only [xL1, xL2, xL3]; rfl) (by kernel_rfl) (by kernel_rfl) (by kernel_rfl) (by exact fun _ _ _ h => h) (Or.inl ⟨by rfl, ?_⟩) (by assumption) ?_
     rotate_left
     ·(intro w hSw; (try dsimp only at hSw); go_simp; (try with_reducible rfl))
     (try simp only [Act.put, xL4, xL5, xL6])
     refine wpAnyH_take (i := 14) (v := ?_) (by simp only [xL1, xL2, xL3]; rfl) (by kernel_rfl) (by kernel_rfl) (by kernel_rfl) (by exact fun _ _ _ h => h) (Or.inl ⟨by rfl, ?_⟩) (by assumption) ?_
     rotate_left
     ·(intro w hSw; (try dsimp only at hSw); go_simp; (try with_reducible rfl))
     (try simp only [Act.put, xL4, xL5, xL6])
     refine wpAnyH_take (i := 15) (v := ?_) (by simp only [xL1, xL2, xL3]; rfl) (by kernel_rfl) (by kernel_rfl) (by kernel_rfl) (by exact fun _ _ _ h => h) (Or.inl ⟨by rfl, ?_⟩) (by assumption) ?_
     rotate_left
     ·(intro w hSw; (try dsimp only at hSw); go_simp; (try with_reducible rfl))
     (try simp only [Act.put, xL4, xL5, xL6])
     refine wpAnyH_take (i := 16) (v := ?_) (by simp only [xL1, xL2, xL3]; rfl) (by kernel_rfl) (by kernel_rfl) (by kernel_rfl) (by exact fun _ _ _ h => h) (Or.inl ⟨by rfl, ?_⟩) (by assumption) ?_
     rotate_left
     ·(intro w hSw; (try dsimp only at hSw); go_simp; (try with_reducible rfl))
     (try simp only [Act.put, xL4, xL5, xL6])
     refine wpAnyH_take (i := 17) (v := ?_) (by simp only [xL1, xL2, xL3]; rfl) (by kernel_rfl) (by kernel_rfl) (by kernel_rfl) (by exact fun _ _ _ h => h) (Or.inl ⟨by rfl, ?_⟩) (by assumption) ?_
     rotate_left
     ·(intro w hSw; (try dsimp only at hSw); go_simp; (try with_reducible rfl))
     (try simp only [Act.put, xL4, xL5, xL6])
     refine wpAnyH_ready (rs := [18]) (by kernel_rfl) (by simp) ?_
     refine AllReadyH.cons (by simp only [xL1, xL2, xL3]; rfl) (fun K hK => ?_) AllReadyH.nil
     go_simp
     refine (qadd_at _ _ (t l).cov (t m).cov L _ r3L r3M hL (by omega) ht1).mono ?_
     rintro e w21 ⟨x18, rfl, h18, b21⟩
     go_wp2_with fail
     replace NNL := NNL.below b21
     replace NNM := NNM.below b21
     replace r3 := r3.below b21
     replace r3L := r3L.below b21
     replace r3M := r3M.below b21
     replace ht1 := ht1.below b21
     replace VN := VN.below b21
     replace BB := BB.trans (b21.mono BB.size)
     clear b21
     refine hK.out _ _ ?_ (fun hH1 => ?_)
     ·exact ⟨VN.c0, VN.c5, VN.c6, VN.c11, VN.c12, VN.c13, NNL.c11, NNL.c12, NNL.c13, NNM.c11, NNM.c12, NNM.c13⟩
     clear hK K hHeld
     (try simp only [Act.put, xL4, xL5, xL6])
     refine wpAnyH_ready (rs := [19]) (by kernel_rfl) (by simp) ?_
     refine AllReadyH.cons (by simp only [xL1, xL2, xL3]; rfl) (fun K hK => ?_) AllReadyH.nil
     go_simp
     refine (qsame_at _ _ (t i).cov ((t l).cov + (t m).cov) (L + L + 1) _ (r3.le (by omega)) (h18.at (L + L + 1) sS) (by omega) (by omega)).mono ?_
     rintro e w22 ⟨rfl, b22⟩
     rw [decide_eq_true hq]
     go_wp2_with fail
     replace NNL := NNL.below b22
     replace NNM := NNM.below b22
     replace r3 := r3.below b22
     replace r3L := r3L.below b22
     replace r3M := r3M.below b22
     replace ht1 := ht1.below b22
     replace VN := VN.below b22
     replace h18 := h18.below b22
     replace BB := BB.trans (b22.mono BB.size)
     clear b22
     refine hK.out _ _ ?_ (fun hH2 => ?_)
     ·exact ⟨VN.c0, VN.c5, VN.c6, VN.c11, VN.c12, VN.c13, NNL.c11, NNL.c12, NNL.c13, NNM.c11, NNM.c12, NNM.c13⟩
     clear hK K hH1
     (try simp only [Act.put, xL4, xL5, xL6])
     refine wpAnyH_take (i := 20) (v := ?_) (by simp only [xL1, xL2, xL3]; rfl) (by kernel_rfl) (by kernel_rfl) (by kernel_rfl) (by exact fun _ _ _ h => h) (Or.inl ⟨by rfl, ?_⟩) (by assumption) ?_
     rotate_left
     ·(intro w hSw; (try dsimp only at hSw); go_simp; (try with_reducible rfl))
     (try simp only [Act.put, xL4, xL5, xL6])
     refine wpAnyH_take (i := 21) (v := ?_) (by simp only [xL1, xL2, xL3]; rfl) (by kernel_rfl) (by kernel_rfl) (by kernel_rfl) (by exact fun _ _ _ h => h) (Or.inl ⟨by rfl, ?_⟩) (by assumption) ?_
     rotate_left
     ·(intro w hSw; (try dsimp only at hSw); go_simp; (try with_reducible rfl))
     (try simp only [Act.put, xL4, xL5, xL6])
     refine wpAnyH_done (by kernel_rfl) ?_ _
     clear hH2
     have HB2 : Hid (∀ j, j < i + 1 → (bad4 t) j = false) := fun j hj => by
      by_cases e : j = i
      ·subst e; rw [HP.out, decide_eq_true hq]; rfl
      ·exact HB.out j (by omega)
     clear HB
     go_wp2
     go_roundw
     case rel => exact ⟨i + 1, by omega, by go_num, HB2, BB⟩
     case measure => simp [intOf]; omega
    ·have hDr : Below W21.heap.size W21 W21.drew := (Below.refl _ _).drew
     replace NNL := NNL.below hDr
     replace NNM := NNM.below hDr
     replace r3 := r3.below hDr
     replace r3L := r3L.below hDr
     replace r3M := r3M.below hDr
     replace ht1 := ht1.below hDr
     replace VN := VN.below hDr
     replace BB := BB.trans (hDr.mono BB.size)
     clear hDr
     refine wp_region_held_drew (S := (fun w' => w'.cell? ⟨R21, 0, none⟩ = some (.bool false) ∧ w'.cell? ⟨R21, 5, none⟩ = some (.int .i64 (l : Int)) ∧ w'.cell? ⟨R21, 6, none⟩ = some (.int .i64 (m : Int)) ∧ w'.cell? ⟨R21, 11, none⟩ = some (.bool p3) ∧ w'.cell? ⟨R21, 12, none⟩ = some (.slice a3 n3 c3) ∧ w'.cell? ⟨R21, 13, none⟩ = some (.slice b3 m3 d3) ∧ w'.cell? ⟨b, off + l * 14 + 11, none⟩ = some (.bool p3L) ∧ w'.cell? ⟨b, off + l * 14 + 12, none⟩ = some (.slice a3L n3L c3L) ∧ w'.cell? ⟨b, off + l * 14 + 13, none⟩ = some (.slice b3L m3L d3L) ∧ w'.cell? ⟨b, off + m * 14 + 11, none⟩ = some (.bool p3M) ∧ w'.cell? ⟨b, off + m * 14 + 12, none⟩ = some (.slice a3M n3M c3M) ∧ w'.cell? ⟨b, off + m * 14 + 13, none⟩ = some (.slice b3M m3M d3M))) (by kernel_rfl) ?_ (fun hHeld => ?_)
     ·exact ⟨VN.c0, VN.c5, VN.c6, VN.c11, VN.c12, VN.c13, NNL.c11, NNL.c12, NNL.c13, NNM.c11, NNM.c12, NNM.c13⟩
     generalize W21.drew = W22 at *
     refine wpAnyH_take (i := 0) (v := ?_) (by simp only [xL1, xL2, xL3]; rfl) (by kernel_rfl) (by kernel_rfl) (by kernel_rfl) (by exact fun _ _ _ h => h) (Or.inl ⟨by rfl, ?_⟩) (by assumption) ?_
     rotate_left
     ·(intro w hSw; (try dsimp only at hSw); go_simp; (try with_reducible rfl))
     (try simp only [Act.put, xL4, xL5, xL6])
     refine wpAnyH_take (i := 1) (v := ?_) (by simp only [xL1, xL2, xL3]; rfl) (by kernel_rfl) (by kernel_rfl) (by kernel_rfl) (by exact fun _ _ _ h => h) (Or.inl ⟨by rfl, ?_⟩) (by assumption) ?_
     rotate_left
     ·(intro w hSw; (try dsimp only at hSw); go_simp; (try with_reducible rfl))
     (try simp only [Act.put, xL4, xL5, xL6])
     refine wpAnyH_take (i := 2) (v := ?_) (by simp only [xL1, xL2, xL3]; rfl) (by kernel_rfl) (by kernel_rfl) (by kernel_rfl) (by exact fun _ _ _ h => h) (Or.inl ⟨by rfl, ?_⟩) (by assumption) ?_
     rotate_left
     ·(intro w hSw; (try dsimp only at hSw); go_simp; (try with_reducible rfl))
     (try simp only [Act.put, xL4, xL5, xL6])
     refine wpAnyH_take (i := 3) (v := ?_) (by simp only [xL1, xL2, xL3]; rfl) (by kernel_rfl) (by kernel_rfl) (by kernel_rfl) (by exact fun _ _ _ h => h) (Or.inl ⟨by rfl, ?_⟩) (by assumption) ?_
     rotate_left
     ·(intro w hSw; (try dsimp only at hSw); go_simp; (try with_reducible rfl))
     (try simp only [Act.put, xL4, xL5, xL6])
     refine wpAnyH_take (i := 4) (v := ?_) (by simp only [xL1, xL2, xL3]; rfl) (by kernel_rfl) (by kernel_rfl) (by kernel_rfl) (by exact fun _ _ _ h => h) (Or.inl ⟨by rfl, ?_⟩) (by assumption) ?_
     rotate_left
     ·(intro w hSw; (try dsimp only at hSw); go_simp; (try with_reducible rfl))
     (try simp only [Act.put, xL4, xL5, xL6])
     refine wpAnyH_take (i := 5) (v := ?_) (by simp only [xL1, xL2, xL3]; rfl) (by kernel_rfl) (by kernel_rfl) (by kernel_rfl) (by exact fun _ _ _ h => h) (Or.inl ⟨by rfl, ?_⟩) (by assumption) ?_
     rotate_left
     ·(intro w hSw; (try dsimp only at hSw); go_simp; (try with_reducible rfl))
     (try simp only [Act.put, xL4, xL5, xL6])
     refine wpAnyH_take (i := 6) (v := ?_) (by simp only [xL1, xL2, xL3]; rfl) (by kernel_rfl) (by kernel_rfl) (by kernel_rfl) (by exact fun _ _ _ h => h) (Or.inl ⟨by rfl, ?_⟩) (by assumption) ?_
     rotate_left
     ·(intro w hSw; (try dsimp only at hSw); go_simp; (try with_reducible rfl))
     (try simp only [Act.put, xL4, xL5, xL6])
     refine wpAnyH_take (i := 7) (v := ?_) (by simp only [xL1, xL2, xL3]; rfl) (by kernel_rfl) (by kernel_rfl) (by kernel_rfl) (by exact fun _ _ _ h => h) (Or.inl ⟨by rfl, ?_⟩) (by assumption) ?_
     rotate_left
     ·(intro w hSw; (try dsimp only at hSw); go_simp; (try with_reducible rfl))
     (try simp only [Act.put, xL4, xL5, xL6])
     refine wpAnyH_take (i := 8) (v := ?_) (by simp only [xL1, xL2, xL3]; rfl) (by kernel_rfl) (by kernel_rfl) (by kernel_rfl) (by exact fun _ _ _ h => h) (Or.inl ⟨by rfl, ?_⟩) (by assumption) ?_
     rotate_left
     ·(intro w hSw; (try dsimp only at hSw); go_simp; (try with_reducible rfl))
     (try simp only [Act.put, xL4, xL5, xL6])
     refine wpAnyH_take (i := 9) (v := ?_) (by simp only [xL1, xL2, xL3]; rfl) (by kernel_rfl) (by kernel_rfl) (by kernel_rfl) (by exact fun _ _ _ h => h) (Or.inl ⟨by rfl, ?_⟩) (by assumption) ?_
     rotate_left
     ·(intro w hSw; (try dsimp only at hSw); go_simp; (try with_reducible rfl))
     (try simp only [Act.put, xL4, xL5, xL6])
     refine wpAnyH_take (i := 10) (v := ?_) (by simp only [xL1, xL2, xL3]; rfl) (by kernel_rfl) (by kernel_rfl) (by kernel_rfl) (by exact fun _ _ _ h => h) (Or.inl ⟨by rfl, ?_⟩) (by assumption) ?_
     rotate_left
     ·(intro w hSw; (try dsimp only at hSw); go_simp; (try with_reducible rfl))
     (try simp only [Act.put, xL4, xL5, xL6])
     refine wpAnyH_take (i := 11) (v := ?_) (by simp only [xL1, xL2, xL3]; rfl) (by kernel_rfl) (by kernel_rfl) (by kernel_rfl) (by exact fun _ _ _ h => h) (Or.inl ⟨by rfl, ?_⟩) (by assumption) ?_
     rotate_left
     ·(intro w hSw; (try dsimp only at hSw); go_simp; (try with_reducible rfl))
     (try simp only [Act.put, xL4, xL5, xL6])
     refine wpAnyH_take (i := 12) (v := ?_) (by simp only [xL1, xL2, xL3]; rfl) (by kernel_rfl) (by kernel_rfl) (by kernel_rfl) (by exact fun _ _ _ h => h) (Or.inl ⟨by rfl, ?_⟩) (by assumption) ?_
     rotate_left
     ·(intro w hSw; (try dsimp only at hSw); go_simp; (try with_reducible rfl))
     (try simp only [Act.put, xL4, xL5, xL6])
     refine wpAnyH_take (i := 13) (v := ?_) (by simp only [xL1, xL2, xL3]; rfl) (by kernel_rfl) (by kernel_rfl) (by kernel_rfl) (by exact fun _ _ _ h => h) (Or.inl ⟨by rfl, ?_⟩) (by assumption) ?_
     rotate_left
     ·(intro w hSw; (try dsimp only at hSw); go_simp; (try with_reducible rfl))
     (try simp only [Act.put, xL4, xL5, xL6])
     refine wpAnyH_take (i := 14) (v := ?_) (by simp only [xL1, xL2, xL3]; rfl) (by kernel_rfl) (by kernel_rfl) (by kernel_rfl) (by exact fun _ _ _ h => h) (Or.inl ⟨by rfl, ?_⟩) (by assumption) ?_
     rotate_left
     ·(intro w hSw; (try dsimp only at hSw); go_simp; (try with_reducible rfl))
     (try simp only [Act.put, xL4, xL5, xL6])
     refine wpAnyH_take (i := 15) (v := ?_) (by simp only [xL1, xL2, xL3]; rfl) (by kernel_rfl) (by kernel_rfl) (by kernel_rfl) (by exact fun _ _ _ h => h) (Or.inl ⟨by rfl, ?_⟩) (by assumption) ?_
     rotate_left
     ·(intro w hSw; (try dsimp only at hSw); go_simp; (try with_reducible rfl))
     (try simp only [Act.put, xL4, xL5, xL6])
     refine wpAnyH_take (i := 16) (v := ?_) (by simp only [xL1, xL2, xL3]; rfl) (by kernel_rfl) (by kernel_rfl) (by kernel_rfl) (by exact fun _ _ _ h => h) (Or.inl ⟨by rfl, ?_⟩) (by assumption) ?_
     rotate_left
     ·(intro w hSw; (try dsimp only at hSw); go_simp; (try with_reducible rfl))
     (try simp only [Act.put, xL4, xL5, xL6])
     refine wpAnyH_take (i := 17) (v := ?_) (by simp only [xL1, xL2, xL3]; rfl) (by kernel_rfl) (by kernel_rfl) (by kernel_rfl) (by exact fun _ _ _ h => h) (Or.inl ⟨by rfl, ?_⟩) (by assumption) ?_
     rotate_left
     ·(intro w hSw; (try dsimp only at hSw); go_simp; (try with_reducible rfl))
     (try simp only [Act.put, xL4, xL5, xL6])
     refine wpAnyH_ready (rs := [18]) (by kernel_rfl) (by simp) ?_
     refine AllReadyH.cons (by simp only [xL1, xL2, xL3]; rfl) (fun K hK => ?_) AllReadyH.nil
     go_simp
     refine (qadd_at _ _ (t l).cov (t m).cov L _ r3L r3M hL (by omega) ht1).mono ?_
     rintro e w21 ⟨x18, rfl, h18, b21⟩
     go_wp2_with fail
     replace NNL := NNL.below b21
     replace NNM := NNM.below b21
     replace r3 := r3.below b21
     replace r3L := r3L.below b21
     replace r3M := r3M.below b21
     replace ht1 := ht1.below b21
     replace VN := VN.below b21
     replace BB := BB.trans (b21.mono BB.size)
     clear b21
     refine hK.out _ _ ?_ (fun hH1 => ?_)
     ·exact ⟨VN.c0, VN.c5, VN.c6, VN.c11, VN.c12, VN.c13, NNL.c11, NNL.c12, NNL.c13, NNM.c11, NNM.c12, NNM.c13⟩
     clear hK K hHeld
     (try simp only [Act.put, xL4, xL5, xL6])
     refine wpAnyH_ready (rs := [19]) (by kernel_rfl) (by simp) ?_
     refine AllReadyH.cons (by simp only [xL1, xL2, xL3]; rfl) (fun K hK => ?_) AllReadyH.nil
     go_simp
     refine (qsame_at _ _ (t i).cov ((t l).cov + (t m).cov) (L + L + 1) _ (r3.le (by omega)) (h18.at (L + L + 1) sS) (by omega) (by omega)).mono ?_
     rintro e w22 ⟨rfl, b22⟩
     rw [decide_eq_false hq]
     go_wp2_with fail
     replace NNL := NNL.below b22
     replace NNM := NNM.below b22
     replace r3 := r3.below b22
     replace r3L := r3L.below b22
     replace r3M := r3M.below b22
     replace ht1 := ht1.below b22
     replace VN := VN.below b22
     replace h18 := h18.below b22
     replace BB := BB.trans (b22.mono BB.size)
     clear b22
     refine hK.out _ _ ?_ (fun hH2 => ?_)
     ·exact ⟨VN.c0, VN.c5, VN.c6, VN.c11, VN.c12, VN.c13, NNL.c11, NNL.c12, NNL.c13, NNM.c11, NNM.c12, NNM.c13⟩
     clear hK K hH1
     (try simp only [Act.put, xL4, xL5, xL6])
     refine wpAnyH_take (i := 20) (v := ?_) (by simp only [xL1, xL2, xL3]; rfl) (by kernel_rfl) (by kernel_rfl) (by kernel_rfl) (by exact fun _ _ _ h => h) (Or.inl ⟨by rfl, ?_⟩) (by assumption) ?_
     rotate_left
     ·(intro w hSw; (try dsimp only at hSw); go_simp; (try with_reducible rfl))
     (try simp only [Act.put, xL4, xL5, xL6])
     refine wpAnyH_take (i := 21) (v := ?_) (by simp only [xL1, xL2, xL3]; rfl) (by kernel_rfl) (by kernel_rfl) (by kernel_rfl) (by exact fun _ _ _ h => h) (Or.inl ⟨by rfl, ?_⟩) (by assumption) ?_
     rotate_left
     ·(intro w hSw; (try dsimp only at hSw); go_simp; (try with_reducible rfl))
     (try simp only [Act.put, xL4, xL5, xL6])
     refine wpAnyH_done (by kernel_rfl) ?_ _
     clear hH2
     have hbad : bad4 t i = true := by rw [HP.out, decide_eq_false hq]; rfl
     clear HP
     have HR : Hid (rpV 13 (fb (bad4 t) n) = .tuple #[.int .i64 (i : Int), .int .i64 13]) := rpV_some hlt HB.out hbad
     clear HB
     go_wp2
     go_ret2
     exact ⟨congrArg Ending.returned HR.out.symm, BB⟩
   ·have hbad : bad4 t i = false := bad4_leaf HLF.out
    clear HLF HLL HRR HNI hv1
    obtain ⟨N_0, N_1, N_2, N_3, N_4, N_5, N_6, N_7, N_8, N_9, N_10, N_11, N_12, N_13⟩ := id NN
    obtain ⟨W1, hW1, hS1, hL1, VN, FN⟩ := V14.lay wr 46 (.bool true) (.int .i64 ft) (.bool p1) (.slice a1 n1 c1) (.slice b1 m1 d1) (.int .i64 ll) (.int .i64 rr) (.bool ms) (.bool p2) (.slice a2 n2 c2) (.slice b2 m2 d2) (.bool p3) (.slice a3 n3 c3) (.slice b3 m3 d3)
    replace BB := BB.trans (hL1.mono BB.size)
    clear hL1
    obtain ⟨V_0, V_1, V_2, V_3, V_4, V_5, V_6, V_7, V_8, V_9, V_10, V_11, V_12, V_13⟩ := id VN
    rw [hW1] at V_0 V_1 V_2 V_3 V_4 V_5 V_6 V_7 V_8 V_9 V_10 V_11 V_12 V_13
    go_wp2
    clear V_0 V_1 V_2 V_3 V_4 V_5 V_6 V_7 V_8 V_9 V_10 V_11 V_12 V_13
    clear N_0 N_1 N_2 N_3 N_4 N_5 N_6 N_7 N_8 N_9 N_10 N_11 N_12 N_13
    rw [← hW1]
    generalize wr.heap.size = R1 at *
    clear hW1 hS1
    have hDr : Below W1.heap.size W1 W1.drew := (Below.refl _ _).drew
    replace VN := VN.below hDr
    replace BB := BB.trans (hDr.mono BB.size)
    clear hDr
    refine wp_region_held_drew (S := (fun w' => w'.cell? ⟨R1, 0, none⟩ = some (.bool true))) (by kernel_rfl) ?_ (fun hHeld => ?_)
    ·exact VN.c0
    generalize W1.drew = W2 at *
    refine wpAnyH_take (i := 0) (v := ?_) (by simp only [xL1, xL2, xL3]; rfl) (by kernel_rfl) (by kernel_rfl) (by kernel_rfl) (by exact fun _ _ _ h => h) (Or.inl ⟨by rfl, ?_⟩) (by assumption) ?_
    rotate_left
    ·(intro w hSw; (try dsimp only at hSw); go_simp; (try with_reducible rfl))
    (try simp only [Act.put, xL4, xL5, xL6])
    refine wpAnyH_take (i := 1) (v := ?_) (by simp only [xL1, xL2, xL3]; rfl) (by kernel_rfl) (by kernel_rfl) (by kernel_rfl) (by exact fun _ _ _ h => h) (Or.inl ⟨by rfl, ?_⟩) (by assumption) ?_
    rotate_left
    ·(intro w hSw; (try dsimp only at hSw); go_simp; (try with_reducible rfl))
    (try simp only [Act.put, xL4, xL5, xL6])
    refine wpAnyH_take (i := 2) (v := ?_) (by simp only [xL1, xL2, xL3]; rfl) (by kernel_rfl) (by kernel_rfl) (by kernel_rfl) (by exact fun _ _ _ h => h) (Or.inl ⟨by rfl, ?_⟩) (by assumption) ?_
    rotate_left
    ·(intro w hSw; (try dsimp only at hSw); go_simp; (try with_reducible rfl))
    (try simp only [Act.put, xL4, xL5, xL6])
    refine wpAnyH_take (i := 3) (v := ?_) (by simp only [xL1, xL2, xL3]; rfl) (by kernel_rfl) (by kernel_rfl) (by kernel_rfl) (by exact fun _ _ _ h => h) (Or.inl ⟨by rfl, ?_⟩) (by assumption) ?_
    rotate_left
    ·(intro w hSw; (try dsimp only at hSw); go_simp; (try with_reducible rfl))
    (try simp only [Act.put, xL4, xL5, xL6])
    refine wpAnyH_take (i := 4) (v := undef) (by simp only [xL1, xL2, xL3]; rfl) (by kernel_rfl) (by kernel_rfl) (by kernel_rfl) (by exact fun _ _ _ h => h) (Or.inr ⟨by rfl, rfl⟩) (by assumption) ?_
    (try simp only [Act.put, xL4, xL5, xL6])
    refine wpAnyH_take (i := 5) (v := undef) (by simp only [xL1, xL2, xL3]; rfl) (by kernel_rfl) (by kernel_rfl) (by kernel_rfl) (by exact fun _ _ _ h => h) (Or.inr ⟨by rfl, rfl⟩) (by assumption) ?_
    (try simp only [Act.put, xL4, xL5, xL6])
    refine wpAnyH_take (i := 6) (v := undef) (by simp only [xL1, xL2, xL3]; rfl) (by kernel_rfl) (by kernel_rfl) (by kernel_rfl) (by exact fun _ _ _ h => h) (Or.inr ⟨by rfl, rfl⟩) (by assumption) ?_
    (try simp only [Act.put, xL4, xL5, xL6])
    refine wpAnyH_take (i := 7) (v := undef) (by simp only [xL1, xL2, xL3]; rfl) (by kernel_rfl) (by kernel_rfl) (by kernel_rfl) (by exact fun _ _ _ h => h) (Or.inr ⟨by rfl, rfl⟩) (by assumption) ?_
    (try simp only [Act.put, xL4, xL5, xL6])
    refine wpAnyH_take (i := 8) (v := undef) (by simp only [xL1, xL2, xL3]; rfl) (by kernel_rfl) (by kernel_rfl) (by kernel_rfl) (by exact fun _ _ _ h => h) (Or.inr ⟨by rfl, rfl⟩) (by assumption) ?_
    (try simp only [Act.put, xL4, xL5, xL6])
    refine wpAnyH_take (i := 9) (v := undef) (by simp only [xL1, xL2, xL3]; rfl) (by kernel_rfl) (by kernel_rfl) (by kernel_rfl) (by exact fun _ _ _ h => h) (Or.inr ⟨by rfl, rfl⟩) (by assumption) ?_
    (try simp only [Act.put, xL4, xL5, xL6])
    refine wpAnyH_take (i := 10) (v := undef) (by simp only [xL1, xL2, xL3]; rfl) (by kernel_rfl) (by kernel_rfl) (by kernel_rfl) (by exact fun _ _ _ h => h) (Or.inr ⟨by rfl, rfl⟩) (by assumption) ?_
    (try simp only [Act.put, xL4, xL5, xL6])
    refine wpAnyH_take (i := 11) (v := undef) (by simp only [xL1, xL2, xL3]; rfl) (by kernel_rfl) (by kernel_rfl) (by kernel_rfl) (by exact fun _ _ _ h => h) (Or.inr ⟨by rfl, rfl⟩) (by assumption) ?_
    (try simp only [Act.put, xL4, xL5, xL6])
    refine wpAnyH_take (i := 12) (v := undef) (by simp only [xL1, xL2, xL3]; rfl) (by kernel_rfl) (by kernel_rfl) (by kernel_rfl) (by exact fun _ _ _ h => h) (Or.inr ⟨by rfl, rfl⟩) (by assumption) ?_
    (try simp only [Act.put, xL4, xL5, xL6])
    refine wpAnyH_take (i := 13) (v := undef) (by simp only [xL1, xL2, xL3]; rfl) (by kernel_rfl) (by kernel_rfl) (by kernel_rfl) (by exact fun _ _ _ h => h) (Or.inr ⟨by rfl, rfl⟩) (by assumption) ?_
    (try simp only [Act.put, xL4, xL5, xL6])
    refine wpAnyH_take (i := 14) (v := undef) (by simp only [xL1, xL2, xL3]; rfl) (by kernel_rfl) (by kernel_rfl) (by kernel_rfl) (by exact fun _ _ _ h => h) (Or.inr ⟨by rfl, rfl⟩) (by assumption) ?_
    (try simp only [Act.put, xL4, xL5, xL6])
    refine wpAnyH_take (i := 15) (v := undef) (by simp only [xL1, xL2, xL3]; rfl) (by kernel_rfl) (by kernel_rfl) (by kernel_rfl) (by exact fun _ _ _ h => h) (Or.inr ⟨by rfl, rfl⟩) (by assumption) ?_
    (try simp only [Act.put, xL4, xL5, xL6])
    refine wpAnyH_take (i := 16) (v := undef) (by simp only [xL1, xL2, xL3]; rfl) (by kernel_rfl) (by kernel_rfl) (by kernel_rfl) (by exact fun _ _ _ h => h) (Or.inr ⟨by rfl, rfl⟩) (by assumption) ?_
    (try simp only [Act.put, xL4, xL5, xL6])
    refine wpAnyH_take (i := 17) (v := undef) (by simp only [xL1, xL2, xL3]; rfl) (by kernel_rfl) (by kernel_rfl) (by kernel_rfl) (by exact fun _ _ _ h => h) (Or.inr ⟨by rfl, rfl⟩) (by assumption) ?_
    (try simp only [Act.put, xL4, xL5, xL6])
    refine wpAnyH_take (i := 18) (v := undef) (by simp only [xL1, xL2, xL3]; rfl) (by kernel_rfl) (by kernel_rfl) (by kernel_rfl) (by exact fun _ _ _ h => h) (Or.inr ⟨by rfl, rfl⟩) (by assumption) ?_
    (try simp only [Act.put, xL4, xL5, xL6])
    refine wpAnyH_take (i := 19) (v := undef) (by simp only [xL1, xL2, xL3]; rfl) (by kernel_rfl) (by kernel_rfl) (by kernel_rfl) (by exact fun _ _ _ h => h) (Or.inr ⟨by rfl, rfl⟩) (by assumption) ?_
    (try simp only [Act.put, xL4, xL5, xL6])
    refine wpAnyH_take (i := 20) (v := undef) (by simp only [xL1, xL2, xL3]; rfl) (by kernel_rfl) (by kernel_rfl) (by kernel_rfl) (by exact fun _ _ _ h => h) (Or.inr ⟨by rfl, rfl⟩) (by assumption) ?_
    (try simp only [Act.put, xL4, xL5, xL6])
    refine wpAnyH_take (i := 21) (v := ?_) (by simp only [xL1, xL2, xL3]; rfl) (by kernel_rfl) (by kernel_rfl) (by kernel_rfl) (by exact fun _ _ _ h => h) (Or.inl ⟨by rfl, ?_⟩) (by assumption) ?_
    rotate_left
    ·(intro w hSw; (try dsimp only at hSw); go_simp; (try with_reducible rfl))
    (try simp only [Act.put, xL4, xL5, xL6])
    refine wpAnyH_done (by kernel_rfl) ?_ _
    clear hHeld
    have HB2 : Hid (∀ j, j < i + 1 → (bad4 t) j = false) := fun j hj => by
     by_cases e : j = i
     ·subst e; exact hbad
     ·exact HB.out j (by omega)
    clear HB
    go_wp2
    go_roundw
    case rel => exact ⟨i + 1, by omega, by go_num, HB2, BB⟩
    case measure => simp [intOf]; omega
  ·obtain rfl : i = n := by omega
   have g1 : ¬ (i : Int) < (i : Int) := by omega
   have HR : Hid (rpV 13 (fb (bad4 t) i) = .tuple #[.int .i64 (-1), .int .i64 0]) := rpV_none HB.out
   go_wp2
   go_ret2
   exact ⟨congrArg Ending.returned HR.out.symm, BB⟩

/-- The order of the rules: how many stand at a place, which, and where each does not hold. -/
def ol (r : Nat) : Nat := if r = 1 then 2 else 1
def ov : Nat → Nat → Nat
 | 0, _ => 0
 | 1, j => 1 + j
 | 2, _ => 3
 | _, _ => 4
def ev : Nat → Int
 | 0 => 8
 | 1 => 11
 | 2 => 12
 | _ => 13
def bw (F : Int) (t : Nat → Nd) (n : Nat) : Nat → Nat → Nat → Bool
 | 0, _ => bad0 F t n
 | 1, 0 => bad1 t n
 | 1, _ => bad2 t n
 | 2, _ => bad3 t
 | _, _ => bad4 t
theorem lrule_any (r j : Nat) (hr : r < 4) (hj : j < ol r) (v : Value) (n : Nat) (t : Nat → Nd) (F : Int) (L : Nat) (w : World) (hv : TRow w v n t L) (ht : Tab w) (hn : n ≤ 255) (hN : 0 < r → Named t n) (hL : 1 ≤ L) (hLM : L ≤ 30000) :
  Calls Tryz.prog 37 #[v, .int .i64 F, .int .i64 (ov r j : Int)] w fun e w' => e = .returned (rpV (ev r) (fb (bw F t n r j) n)) ∧ Below w.heap.size w w' := by
 unfold ol at hj
 rcases (by omega : r = 0 ∨ r = 1 ∨ r = 2 ∨ r = 3) with rfl | rfl | rfl | rfl
 ·exact lrule0_at v n t F L w hv hn
 ·rw [if_pos rfl] at hj
  rcases (by omega : j = 0 ∨ j = 1) with rfl | rfl
  ·exact lrule1_at v n t F L w hv hn
  ·exact lrule2_at v n t F L w hv hn
 ·exact lrule3_at v n t F L w hv hn hL (by omega)
 ·exact lrule4_at v n t F L w hv hn ht (hN (by omega)) hL hLM
theorem rl_of_none {F : Int} {t : Nat → Nd} {n r : Nat} (hr : r < 4) (h : ∀ j, j < ol r → fb (bw F t n r j) n = none) : rl F t n r = none := by
 rcases (by omega : r = 0 ∨ r = 1 ∨ r = 2 ∨ r = 3) with rfl | rfl | rfl | rfl
 ·have := h 0 (by decide); show Option.map _ (fb (bad0 F t n) n) = none; rw [show fb (bad0 F t n) n = none from this]; rfl
 ·have h0 := h 0 (by decide)
  have h1 := h 1 (by decide)
  show Option.map _ ((fb (bad1 t n) n).or (fb (bad2 t n) n)) = none
  rw [show fb (bad1 t n) n = none from h0, show fb (bad2 t n) n = none from h1]; rfl
 ·have := h 0 (by decide); show Option.map _ (fb (bad3 t) n) = none; rw [show fb (bad3 t) n = none from this]; rfl
 ·have := h 0 (by decide); show Option.map _ (fb (bad4 t) n) = none; rw [show fb (bad4 t) n = none from this]; rfl
theorem rl_of_some {F : Int} {t : Nat → Nd} {n r j i : Nat} (hr : r < 4) (hj : j < ol r) (h0 : ∀ j', j' < j → fb (bw F t n r j') n = none) (h : fb (bw F t n r j) n = some i) : rl F t n r = some (ev r, i) := by
 unfold ol at hj
 rcases (by omega : r = 0 ∨ r = 1 ∨ r = 2 ∨ r = 3) with rfl | rfl | rfl | rfl
 ·show Option.map _ (fb (bad0 F t n) n) = _; rw [show fb (bad0 F t n) n = some i from h]; rfl
 ·rw [if_pos rfl] at hj
  rcases (by omega : j = 0 ∨ j = 1) with rfl | rfl
  ·show Option.map _ ((fb (bad1 t n) n).or (fb (bad2 t n) n)) = _
   rw [show fb (bad1 t n) n = some i from h]; rfl
  ·show Option.map _ ((fb (bad1 t n) n).or (fb (bad2 t n) n)) = _
   rw [show fb (bad1 t n) n = none from h0 0 (by omega), show fb (bad2 t n) n = some i from h]; rfl
 ·show Option.map _ (fb (bad3 t) n) = _; rw [show fb (bad3 t) n = some i from h]; rfl
 ·show Option.map _ (fb (bad4 t) n) = _; rw [show fb (bad4 t) n = some i from h]; rfl
/-- The table of the order, as the law lays it. -/
theorem order_lay (w : World) : ∃ W, W = ((((w.alloc (.cells #[.int .i64 0] 3)).alloc (.cells #[.int .i64 1, .int .i64 2] 3)).alloc (.cells #[.int .i64 3] 3)).alloc (.cells #[.int .i64 4] 3)).alloc (.cells #[.slice (some ⟨w.heap.size, 0, none⟩) 1 1, .slice (some ⟨w.heap.size + 1, 0, none⟩) 2 2, .slice (some ⟨w.heap.size + 2, 0, none⟩) 1 1, .slice (some ⟨w.heap.size + 3, 0, none⟩) 1 1] 68) ∧ Below w.heap.size w W ∧
  ∀ r, r < 4 → W.cell? ⟨w.heap.size + 4, r, none⟩ = some (.slice (some ⟨w.heap.size + r, 0, none⟩) (ol r) (ol r)) ∧ ∀ j, j < ol r → W.cell? ⟨w.heap.size + r, j, none⟩ = some (.int .i64 (ov r j : Int)) := by
 refine ⟨_, rfl, ((((Below.refl _ _).alloc (Nat.le_refl _) _).alloc (by simp) _).alloc (by simp; omega) _).alloc (by simp; omega) _ |>.alloc (by simp; omega) _, fun r hr => ⟨?_, fun j hj => ?_⟩⟩
 ·rcases (by omega : r = 0 ∨ r = 1 ∨ r = 2 ∨ r = 3) with rfl | rfl | rfl | rfl <;> simp [ol, go_sem]
 ·unfold ol at hj
  rcases (by omega : r = 0 ∨ r = 1 ∨ r = 2 ∨ r = 3) with rfl | rfl | rfl | rfl
  ·rw [if_neg (by omega)] at hj; obtain rfl : j = 0 := by omega
   simp [ov, go_sem]
  ·rw [if_pos rfl] at hj
   rcases (by omega : j = 0 ∨ j = 1) with rfl | rfl <;> simp [ov, go_sem]
  ·rw [if_neg (by omega)] at hj; obtain rfl : j = 0 := by omega
   simp [ov, go_sem]
  ·rw [if_neg (by omega)] at hj; obtain rfl : j = 0 := by omega
   simp [ov, go_sem]

/-- A cell. -/
structure Cel8 (w : World) (b o : Nat) (x : Value) : Prop where
 cell : w.cell? ⟨b, o, none⟩ = some x
theorem Cel8.below {w w' : World} {b o : Nat} {x : Value} (h : Cel8 w b o x) (hb : Below w.heap.size w w') : Cel8 w' b o x := ⟨(hb.cell (World.block_lt_of_cell? w _ h.cell)).trans h.cell⟩


set_option maxRecDepth 100000 in
set_option maxHeartbeats 8000000 in
theorem lcheck_at (F : Int) (v : Value) (k : Nat) (N : Nat → Nat) (T : Nat → Nat → Nd) (L : Nat) (w : World) (hv : MRow w v k N T L) (ht : Tab w) (hL : 1 ≤ L) (hLM : L ≤ 30000) :
  Calls Tryz.prog 16 #[.agg #[.int .i64 F, v]] w fun e w' => ∃ u, e = .returned u ∧ ChkOut F k N T u ∧ Below w.heap.size w w' := by
 obtain ⟨ao, c, rfl, hnc, hc63⟩ := hv.open
 have BB : Below w.heap.size w w := Below.refl _ _
 obtain ⟨Wb0, hW0, hS0, hL0, VM⟩ := V2.lay w 24 (.int .i64 F) (.slice ao k c)
 replace hv := hv.below hL0
 replace ht := ht.below hL0
 replace BB := BB.trans (hL0.mono BB.size)
 clear hL0
 obtain ⟨Wb1, hW1, hS1, hL1, VR⟩ := V4.lay Wb0 31 (.int .i64 0) (.int .i64 0) (.int .i64 0) (.int .i64 0)
 rw [hS0] at VR hS1
 replace hv := hv.below hL1
 replace ht := ht.below hL1
 replace VM := VM.below hL1
 replace BB := BB.trans (hL1.mono BB.size)
 clear hL1
 go_enter Tryz.func16, Tryz.ntmps16
 obtain ⟨VM_0, VM_1, VM_2, VM_3⟩ := id VM
 rw [hW1, hW0] at VM_0 VM_1 VM_2 VM_3
 go_wp2_with fail
 clear VM_0 VM_1 VM_2 VM_3
 rw [← hW0]
 rw [← hW1]
 clear hW0 hW1 hS0 hS1
 refine (fits_at F _ k N T L _ hv).mono ?_
 rintro e w1 ⟨rfl, b1⟩
 replace hv := hv.below b1
 replace ht := ht.below b1
 replace VM := VM.below b1
 replace VR := VR.below b1
 replace BB := BB.trans (b1.mono BB.size)
 clear b1
 cases hmf : mfit F k N T
 ·have HM : Hid (mfit F k N T = false) := hmf
  clear hmf
  obtain ⟨⟨q1, q2, q3, q4, q5, q6⟩, q7, q8⟩ := id VR
  go_wp2
  (try simp only [Exit.inBlock, Exit.then])
  refine bodyPost_ret (v := .agg #[.int .i64 1, .int .i64 0, .int .i64 0, .int .i64 0]) (by simp [results, go_sem, q1, q2, q3, q7]) rfl ?_
  exact ⟨_, rfl, .inl ⟨HM.out, rfl⟩, below_store4 BB (by omega) _ _ _ _⟩
 ·have HM : Hid (mfit F k N T = true) := hmf
  obtain ⟨hF0, hF1, hk64, hlens⟩ := mfit_is hmf
  have HLN : Hid (∀ i, i < k → 1 ≤ N i ∧ N i ≤ 255) := hlens
  clear hmf hlens hF0 hF1
  obtain ⟨Wo, hWo, bo, hOr⟩ := order_lay w1
  have HOR : Hid (∀ r, r < 4 → Wo.cell? ⟨w1.heap.size + 4, r, none⟩ = some (.slice (some ⟨w1.heap.size + r, 0, none⟩) (ol r) (ol r)) ∧ ∀ j, j < ol r → Wo.cell? ⟨w1.heap.size + r, j, none⟩ = some (.int .i64 (ov r j : Int))) := hOr
  clear hOr
  replace hv := hv.below bo
  replace ht := ht.below bo
  replace VM := VM.below bo
  replace VR := VR.below bo
  replace BB := BB.trans (bo.mono BB.size)
  clear bo
  go_wp2
  rw [← hWo]
  generalize w1.heap.size = G at *
  clear hWo
  have hv0 := hv
  have ht0 := ht
  have VM0 := VM
  have VR0 := VR
  have BB0 : Hid (Below w.heap.size w Wo) := BB
  clear hv ht VM VR BB
  go_loopw [4] (fun vi wr => ∃ r : Nat, r ≤ 4 ∧ vi = .int .i64 (r : Int) ∧ Hid (∀ r', r' < r → ∀ i, i < k → rl F (T i) (N i) r' = none) ∧ Below Wo.heap.size Wo wr) (fun vi _ => 4 - (intOf vi).toNat)
  case atStart => exact ⟨0, by omega, rfl, fun r' h => by omega, Below.refl _ _⟩
  case round =>
   obtain ⟨r, hr, rfl, HB, BL⟩ := hrel
   by_cases hlt : r < 4
   ·have g1 : (r : Int) < 4 := by omega
    have g0 : (0 : Int) ≤ (r : Int) := by omega
    go_wp2
    obtain ⟨wo, rfl⟩ : ∃ wo, wo = wr := ⟨_, rfl⟩
    go_loopw [5] (fun vi wr => ∃ i : Nat, i ≤ k ∧ vi = .int .i64 (i : Int) ∧ Hid (∀ i', i' < i → rl F (T i') (N i') r = none) ∧ Below Wo.heap.size Wo wr) (fun vi _ => k - (intOf vi).toNat)
    case atStart => exact ⟨0, by omega, rfl, fun i' h => by omega, BL⟩
    case round =>
     clear BL
     obtain ⟨i, hi, rfl, HI, BL⟩ := hrel
     obtain ⟨VM_0, VM_1, VM_2, VM_3⟩ := VM0.below BL
     by_cases hlt2 : i < k
     ·have g2 : (i : Int) < (k : Int) := by omega
      have g3 : (0 : Int) ≤ (i : Int) := by omega
      obtain ⟨hn1, hn2⟩ := HLN.out i hlt2
      have HNM : Hid (0 < r → Named (T i) (N i)) := fun h0 => rl0_named (HB.out 0 h0 i hlt2)
      go_wp2
      clear VM_0 VM_1 VM_2 VM_3
      obtain ⟨wp_, rfl⟩ : ∃ wp_, wp_ = wr := ⟨_, rfl⟩
      have ho12 : 1 ≤ ol r ∧ ol r ≤ 2 := by unfold ol; split <;> omega
      obtain ⟨o, hoo⟩ : ∃ o, o = ol r := ⟨_, rfl⟩
      rw [← hoo] at ho12
      have HOO : Hid (o = ol r) := hoo
      clear hoo
      go_loopw [6] (fun vi wr => ∃ q : Nat, q ≤ o ∧ vi = .int .i64 (q : Int) ∧ Hid (∀ j, j < q → fb (bw F (T i) (N i) r j) (N i) = none) ∧ Below Wo.heap.size Wo wr) (fun vi _ => o - (intOf vi).toNat)
      case atStart => exact ⟨0, by omega, rfl, fun j h => by omega, BL⟩
      case round =>
       clear BL
       obtain ⟨q, hq, rfl, HQ, BL⟩ := hrel
       obtain ⟨XO0, XI0⟩ := HOR.out r hlt
       rw [← HOO.out] at XO0 XI0
       have XO : wr.cell? ⟨G + 4, r, none⟩ = some (.slice (some ⟨G + r, 0, none⟩) o o) := (BL.cell (World.block_lt_of_cell? _ _ XO0)).trans XO0
       clear XO0
       by_cases hlt3 : q < o
       ·have g4 : (q : Int) < (o : Int) := by omega
        have g5 : (0 : Int) ≤ (q : Int) := by omega
        have XQ : wr.cell? ⟨G + r, q, none⟩ = some (.int .i64 (ov r q : Int)) := (BL.cell (World.block_lt_of_cell? _ _ (XI0 q hlt3))).trans (XI0 q hlt3)
        clear XI0
        obtain ⟨b, off, cc, a, d, hvv, hcc, XC, TR⟩ := (hv0.below BL).at hlt2
        cases hvv
        have ht := ht0.below BL
        have VM := VM0.below BL
        have VR := VR0.below BL
        have BB := BB0.out.trans (BL.mono BB0.out.size)
        have CO : Cel8 wr (G + 4) r (.slice (some ⟨G + r, 0, none⟩) o o) := ⟨XO⟩
        have CQ : Cel8 wr (G + r) q (.int .i64 (ov r q : Int)) := ⟨XQ⟩
        have CC : Cel8 wr b (off + i) (.slice a (N i) d) := ⟨XC⟩
        obtain ⟨W9, hq9⟩ : ∃ z, ov r q = z := ⟨_, rfl⟩
        rw [hq9] at CQ
        have HQ9 : Hid (ov r q = W9) := hq9
        clear hq9 XQ XC
        obtain ⟨VM_0, VM_1, VM_2, VM_3⟩ := id VM
        go_wp2
        clear XO VM_0 VM_1 VM_2 VM_3
        cases hfb : fb (bw F (T i) (N i) r q) (N i)
        ·have HFB : Hid (fb (bw F (T i) (N i) r q) (N i) = none) := hfb
         clear hfb
         have BLR := BL
         clear BL
         have hDr : Below wr.heap.size wr wr.drew := (Below.refl _ _).drew
         replace ht := ht.below hDr
         replace TR := TR.below hDr
         replace CO := CO.below hDr
         replace CQ := CQ.below hDr
         replace CC := CC.below hDr
         replace VM := VM.below hDr
         replace VR := VR.below hDr
         replace BB := BB.trans (hDr.mono BB.size)
         replace BLR := BLR.trans (hDr.mono BLR.size)
         clear hDr
         refine wp_region_held_drew (S := (fun w' => w'.cell? ⟨w.heap.size, 0, none⟩ = some (.int .i64 F) ∧ w'.cell? ⟨w.heap.size, 1, none⟩ = some (.slice (some ⟨b, off, none⟩) k c) ∧ w'.cell? ⟨b, off + i, none⟩ = some (.slice a (N i) d) ∧ w'.cell? ⟨G + 4, r, none⟩ = some (.slice (some ⟨G + r, 0, none⟩) o o) ∧ w'.cell? ⟨G + r, q, none⟩ = some (.int .i64 (W9 : Int)))) (by kernel_rfl) ?_ (fun hHeld => ?_)
         ·exact ⟨VM.1, VM.2.1, CC.cell, CO.cell, CQ.cell⟩
         generalize wr.drew = W31 at *
         refine wpAnyH_take (i := 0) (v := ?_) (by simp only [xL1, xL2, xL3]; rfl) (by kernel_rfl) (by kernel_rfl) (by kernel_rfl) (by exact fun _ _ _ h => h) (Or.inl ⟨by rfl, ?_⟩) (by assumption) ?_
         rotate_left
         ·(intro w hSw; (try dsimp only at hSw); go_simp; (try with_reducible rfl))
         (try simp only [Act.put, xL4, xL5, xL6])
         refine wpAnyH_take (i := 1) (v := ?_) (by simp only [xL1, xL2, xL3]; rfl) (by kernel_rfl) (by kernel_rfl) (by kernel_rfl) (by exact fun _ _ _ h => h) (Or.inl ⟨by rfl, ?_⟩) (by assumption) ?_
         rotate_left
         ·(intro w hSw; (try dsimp only at hSw); go_simp; (try with_reducible rfl))
         (try simp only [Act.put, xL4, xL5, xL6])
         refine wpAnyH_take (i := 2) (v := ?_) (by simp only [xL1, xL2, xL3]; rfl) (by kernel_rfl) (by kernel_rfl) (by kernel_rfl) (by exact fun _ _ _ h => h) (Or.inl ⟨by rfl, ?_⟩) (by assumption) ?_
         rotate_left
         ·(intro w hSw; (try dsimp only at hSw); go_simp; (try with_reducible rfl))
         (try simp only [Act.put, xL4, xL5, xL6])
         refine wpAnyH_take (i := 3) (v := ?_) (by simp only [xL1, xL2, xL3]; rfl) (by kernel_rfl) (by kernel_rfl) (by kernel_rfl) (by exact fun _ _ _ h => h) (Or.inl ⟨by rfl, ?_⟩) (by assumption) ?_
         rotate_left
         ·(intro w hSw; (try dsimp only at hSw); go_simp; (try with_reducible rfl))
         (try simp only [Act.put, xL4, xL5, xL6])
         refine wpAnyH_take (i := 4) (v := ?_) (by simp only [xL1, xL2, xL3]; rfl) (by kernel_rfl) (by kernel_rfl) (by kernel_rfl) (by exact fun _ _ _ h => h) (Or.inl ⟨by rfl, ?_⟩) (by assumption) ?_
         rotate_left
         ·(intro w hSw; (try dsimp only at hSw); go_simp; (try with_reducible rfl))
         (try simp only [Act.put, xL4, xL5, xL6])
         refine wpAnyH_take (i := 5) (v := ?_) (by simp only [xL1, xL2, xL3]; rfl) (by kernel_rfl) (by kernel_rfl) (by kernel_rfl) (by exact fun _ _ _ h => h) (Or.inl ⟨by rfl, ?_⟩) (by assumption) ?_
         rotate_left
         ·(intro w hSw; (try dsimp only at hSw); go_simp; (try with_reducible rfl))
         (try simp only [Act.put, xL4, xL5, xL6])
         refine wpAnyH_take (i := 6) (v := ?_) (by simp only [xL1, xL2, xL3]; rfl) (by kernel_rfl) (by kernel_rfl) (by kernel_rfl) (by exact fun _ _ _ h => h) (Or.inl ⟨by rfl, ?_⟩) (by assumption) ?_
         rotate_left
         ·(intro w hSw; (try dsimp only at hSw); go_simp; (try with_reducible rfl))
         (try simp only [Act.put, xL4, xL5, xL6])
         refine wpAnyH_take (i := 7) (v := ?_) (by simp only [xL1, xL2, xL3]; rfl) (by kernel_rfl) (by kernel_rfl) (by kernel_rfl) (by exact fun _ _ _ h => h) (Or.inl ⟨by rfl, ?_⟩) (by assumption) ?_
         rotate_left
         ·(intro w hSw; (try dsimp only at hSw); go_simp; (try with_reducible rfl))
         (try simp only [Act.put, xL4, xL5, xL6])
         refine wpAnyH_take (i := 8) (v := ?_) (by simp only [xL1, xL2, xL3]; rfl) (by kernel_rfl) (by kernel_rfl) (by kernel_rfl) (by exact fun _ _ _ h => h) (Or.inl ⟨by rfl, ?_⟩) (by assumption) ?_
         rotate_left
         ·(intro w hSw; (try dsimp only at hSw); go_simp; (try with_reducible rfl))
         (try simp only [Act.put, xL4, xL5, xL6])
         refine wpAnyH_take (i := 9) (v := ?_) (by simp only [xL1, xL2, xL3]; rfl) (by kernel_rfl) (by kernel_rfl) (by kernel_rfl) (by exact fun _ _ _ h => h) (Or.inl ⟨by rfl, ?_⟩) (by assumption) ?_
         rotate_left
         ·(intro w hSw; (try dsimp only at hSw); go_simp; (try with_reducible rfl))
         (try simp only [Act.put, xL4, xL5, xL6])
         refine wpAnyH_take (i := 10) (v := ?_) (by simp only [xL1, xL2, xL3]; rfl) (by kernel_rfl) (by kernel_rfl) (by kernel_rfl) (by exact fun _ _ _ h => h) (Or.inl ⟨by rfl, ?_⟩) (by assumption) ?_
         rotate_left
         ·(intro w hSw; (try dsimp only at hSw); go_simp; (try with_reducible rfl))
         (try simp only [Act.put, xL4, xL5, xL6])
         refine wpAnyH_take (i := 11) (v := ?_) (by simp only [xL1, xL2, xL3]; rfl) (by kernel_rfl) (by kernel_rfl) (by kernel_rfl) (by exact fun _ _ _ h => h) (Or.inl ⟨by rfl, ?_⟩) (by assumption) ?_
         rotate_left
         ·(intro w hSw; (try dsimp only at hSw); go_simp; (try with_reducible rfl))
         (try simp only [Act.put, xL4, xL5, xL6])
         refine wpAnyH_take (i := 12) (v := ?_) (by simp only [xL1, xL2, xL3]; rfl) (by kernel_rfl) (by kernel_rfl) (by kernel_rfl) (by exact fun _ _ _ h => h) (Or.inl ⟨by rfl, ?_⟩) (by assumption) ?_
         rotate_left
         ·(intro w hSw; (try dsimp only at hSw); go_simp; (try with_reducible rfl))
         (try simp only [Act.put, xL4, xL5, xL6])
         refine wpAnyH_take (i := 13) (v := ?_) (by simp only [xL1, xL2, xL3]; rfl) (by kernel_rfl) (by kernel_rfl) (by kernel_rfl) (by exact fun _ _ _ h => h) (Or.inl ⟨by rfl, ?_⟩) (by assumption) ?_
         rotate_left
         ·(intro w hSw; (try dsimp only at hSw); go_simp; (try with_reducible rfl))
         (try simp only [Act.put, xL4, xL5, xL6])
         refine wpAnyH_ready (rs := [14]) (by kernel_rfl) (by simp) ?_
         refine AllReadyH.cons (by simp only [xL1, xL2, xL3]; rfl) (fun K hK => ?_) AllReadyH.nil
         go_simp
         refine (HQ9.out ▸ lrule_any r q hlt (by rw [← HOO.out]; exact hlt3) _ (N i) (T i) F L _ TR ht hn2 HNM.out hL hLM).mono ?_
         rintro e w31 ⟨rfl, b31⟩
         rw [HFB.out, show rpV (ev r) none = .tuple #[.int .i64 (-1), .int .i64 0] from rfl]
         go_wp2_with fail
         replace ht := ht.below b31
         replace TR := TR.below b31
         replace CO := CO.below b31
         replace CQ := CQ.below b31
         replace CC := CC.below b31
         replace VM := VM.below b31
         replace VR := VR.below b31
         replace BB := BB.trans (b31.mono BB.size)
         replace BLR := BLR.trans (b31.mono BLR.size)
         clear b31
         refine hK.out _ _ ?_ (fun hH1 => ?_)
         ·exact ⟨VM.1, VM.2.1, CC.cell, CO.cell, CQ.cell⟩
         clear hK K hHeld
         (try simp only [Act.put, xL4, xL5, xL6])
         refine wpAnyH_take (i := 15) (v := ?_) (by simp only [xL1, xL2, xL3]; rfl) (by kernel_rfl) (by kernel_rfl) (by kernel_rfl) (by exact fun _ _ _ h => h) (Or.inl ⟨by rfl, ?_⟩) (by assumption) ?_
         rotate_left
         ·(intro w hSw; (try dsimp only at hSw); go_simp; (try with_reducible rfl))
         (try simp only [Act.put, xL4, xL5, xL6])
         refine wpAnyH_take (i := 16) (v := ?_) (by simp only [xL1, xL2, xL3]; rfl) (by kernel_rfl) (by kernel_rfl) (by kernel_rfl) (by exact fun _ _ _ h => h) (Or.inl ⟨by rfl, ?_⟩) (by assumption) ?_
         rotate_left
         ·(intro w hSw; (try dsimp only at hSw); go_simp; (try with_reducible rfl))
         (try simp only [Act.put, xL4, xL5, xL6])
         refine wpAnyH_take (i := 17) (v := ?_) (by simp only [xL1, xL2, xL3]; rfl) (by kernel_rfl) (by kernel_rfl) (by kernel_rfl) (by exact fun _ _ _ h => h) (Or.inl ⟨by rfl, ?_⟩) (by assumption) ?_
         rotate_left
         ·(intro w hSw; (try dsimp only at hSw); go_simp; (try with_reducible rfl))
         (try simp only [Act.put, xL4, xL5, xL6])
         refine wpAnyH_take (i := 18) (v := ?_) (by simp only [xL1, xL2, xL3]; rfl) (by kernel_rfl) (by kernel_rfl) (by kernel_rfl) (by exact fun _ _ _ h => h) (Or.inl ⟨by rfl, ?_⟩) (by assumption) ?_
         rotate_left
         ·(intro w hSw; (try dsimp only at hSw); go_simp; (try with_reducible rfl))
         (try simp only [Act.put, xL4, xL5, xL6])
         refine wpAnyH_take (i := 19) (v := ?_) (by simp only [xL1, xL2, xL3]; rfl) (by kernel_rfl) (by kernel_rfl) (by kernel_rfl) (by exact fun _ _ _ h => h) (Or.inl ⟨by rfl, ?_⟩) (by assumption) ?_
         rotate_left
         ·(intro w hSw; (try dsimp only at hSw); go_simp; (try with_reducible rfl))
         (try simp only [Act.put, xL4, xL5, xL6])
         refine wpAnyH_done (by kernel_rfl) ?_ _
         clear hH1
         have HQ2 : Hid (∀ j, j < q + 1 → fb (bw F (T i) (N i) r j) (N i) = none) := fun j hj => by
          by_cases e : j = q
          ·subst e; exact HFB.out
          ·exact HQ.out j (by omega)
         clear HQ HFB
         go_wp2
         go_roundw
         case rel => exact ⟨q + 1, by omega, by go_num, HQ2, BLR⟩
         case measure => simp [intOf]; omega
        ·rename_i nd
         have HX : Hid (IsFirst F k N T (some (ev r, i, nd))) := .inr ⟨r, i, ev r, nd, hlt, hlt2, rfl, rl_of_some hlt (by rw [← HOO.out]; exact hlt3) HQ.out hfb, HB.out, HI.out⟩
         have HFB : Hid (fb (bw F (T i) (N i) r q) (N i) = some nd) := hfb
         clear hfb
         have her : ¬ ev r = 0 := by rcases (by omega : r = 0 ∨ r = 1 ∨ r = 2 ∨ r = 3) with rfl | rfl | rfl | rfl <;> decide
         have BLR := BL
         clear BL
         have hDr : Below wr.heap.size wr wr.drew := (Below.refl _ _).drew
         replace ht := ht.below hDr
         replace TR := TR.below hDr
         replace CO := CO.below hDr
         replace CQ := CQ.below hDr
         replace CC := CC.below hDr
         replace VM := VM.below hDr
         replace VR := VR.below hDr
         replace BB := BB.trans (hDr.mono BB.size)
         replace BLR := BLR.trans (hDr.mono BLR.size)
         clear hDr
         refine wp_region_held_drew (S := (fun w' => w'.cell? ⟨w.heap.size, 0, none⟩ = some (.int .i64 F) ∧ w'.cell? ⟨w.heap.size, 1, none⟩ = some (.slice (some ⟨b, off, none⟩) k c) ∧ w'.cell? ⟨b, off + i, none⟩ = some (.slice a (N i) d) ∧ w'.cell? ⟨G + 4, r, none⟩ = some (.slice (some ⟨G + r, 0, none⟩) o o) ∧ w'.cell? ⟨G + r, q, none⟩ = some (.int .i64 (W9 : Int)))) (by kernel_rfl) ?_ (fun hHeld => ?_)
         ·exact ⟨VM.1, VM.2.1, CC.cell, CO.cell, CQ.cell⟩
         generalize wr.drew = W31 at *
         refine wpAnyH_take (i := 0) (v := ?_) (by simp only [xL1, xL2, xL3]; rfl) (by kernel_rfl) (by kernel_rfl) (by kernel_rfl) (by exact fun _ _ _ h => h) (Or.inl ⟨by rfl, ?_⟩) (by assumption) ?_
         rotate_left
         ·(intro w hSw; (try dsimp only at hSw); go_simp; (try with_reducible rfl))
         (try simp only [Act.put, xL4, xL5, xL6])
         refine wpAnyH_take (i := 1) (v := ?_) (by simp only [xL1, xL2, xL3]; rfl) (by kernel_rfl) (by kernel_rfl) (by kernel_rfl) (by exact fun _ _ _ h => h) (Or.inl ⟨by rfl, ?_⟩) (by assumption) ?_
         rotate_left
         ·(intro w hSw; (try dsimp only at hSw); go_simp; (try with_reducible rfl))
         (try simp only [Act.put, xL4, xL5, xL6])
         refine wpAnyH_take (i := 2) (v := ?_) (by simp only [xL1, xL2, xL3]; rfl) (by kernel_rfl) (by kernel_rfl) (by kernel_rfl) (by exact fun _ _ _ h => h) (Or.inl ⟨by rfl, ?_⟩) (by assumption) ?_
         rotate_left
         ·(intro w hSw; (try dsimp only at hSw); go_simp; (try with_reducible rfl))
         (try simp only [Act.put, xL4, xL5, xL6])
         refine wpAnyH_take (i := 3) (v := ?_) (by simp only [xL1, xL2, xL3]; rfl) (by kernel_rfl) (by kernel_rfl) (by kernel_rfl) (by exact fun _ _ _ h => h) (Or.inl ⟨by rfl, ?_⟩) (by assumption) ?_
         rotate_left
         ·(intro w hSw; (try dsimp only at hSw); go_simp; (try with_reducible rfl))
         (try simp only [Act.put, xL4, xL5, xL6])
         refine wpAnyH_take (i := 4) (v := ?_) (by simp only [xL1, xL2, xL3]; rfl) (by kernel_rfl) (by kernel_rfl) (by kernel_rfl) (by exact fun _ _ _ h => h) (Or.inl ⟨by rfl, ?_⟩) (by assumption) ?_
         rotate_left
         ·(intro w hSw; (try dsimp only at hSw); go_simp; (try with_reducible rfl))
         (try simp only [Act.put, xL4, xL5, xL6])
         refine wpAnyH_take (i := 5) (v := ?_) (by simp only [xL1, xL2, xL3]; rfl) (by kernel_rfl) (by kernel_rfl) (by kernel_rfl) (by exact fun _ _ _ h => h) (Or.inl ⟨by rfl, ?_⟩) (by assumption) ?_
         rotate_left
         ·(intro w hSw; (try dsimp only at hSw); go_simp; (try with_reducible rfl))
         (try simp only [Act.put, xL4, xL5, xL6])
         refine wpAnyH_take (i := 6) (v := ?_) (by simp only [xL1, xL2, xL3]; rfl) (by kernel_rfl) (by kernel_rfl) (by kernel_rfl) (by exact fun _ _ _ h => h) (Or.inl ⟨by rfl, ?_⟩) (by assumption) ?_
         rotate_left
         ·(intro w hSw; (try dsimp only at hSw); go_simp; (try with_reducible rfl))
         (try simp only [Act.put, xL4, xL5, xL6])
         refine wpAnyH_take (i := 7) (v := ?_) (by simp only [xL1, xL2, xL3]; rfl) (by kernel_rfl) (by kernel_rfl) (by kernel_rfl) (by exact fun _ _ _ h => h) (Or.inl ⟨by rfl, ?_⟩) (by assumption) ?_
         rotate_left
         ·(intro w hSw; (try dsimp only at hSw); go_simp; (try with_reducible rfl))
         (try simp only [Act.put, xL4, xL5, xL6])
         refine wpAnyH_take (i := 8) (v := ?_) (by simp only [xL1, xL2, xL3]; rfl) (by kernel_rfl) (by kernel_rfl) (by kernel_rfl) (by exact fun _ _ _ h => h) (Or.inl ⟨by rfl, ?_⟩) (by assumption) ?_
         rotate_left
         ·(intro w hSw; (try dsimp only at hSw); go_simp; (try with_reducible rfl))
         (try simp only [Act.put, xL4, xL5, xL6])
         refine wpAnyH_take (i := 9) (v := ?_) (by simp only [xL1, xL2, xL3]; rfl) (by kernel_rfl) (by kernel_rfl) (by kernel_rfl) (by exact fun _ _ _ h => h) (Or.inl ⟨by rfl, ?_⟩) (by assumption) ?_
         rotate_left
         ·(intro w hSw; (try dsimp only at hSw); go_simp; (try with_reducible rfl))
         (try simp only [Act.put, xL4, xL5, xL6])
         refine wpAnyH_take (i := 10) (v := ?_) (by simp only [xL1, xL2, xL3]; rfl) (by kernel_rfl) (by kernel_rfl) (by kernel_rfl) (by exact fun _ _ _ h => h) (Or.inl ⟨by rfl, ?_⟩) (by assumption) ?_
         rotate_left
         ·(intro w hSw; (try dsimp only at hSw); go_simp; (try with_reducible rfl))
         (try simp only [Act.put, xL4, xL5, xL6])
         refine wpAnyH_take (i := 11) (v := ?_) (by simp only [xL1, xL2, xL3]; rfl) (by kernel_rfl) (by kernel_rfl) (by kernel_rfl) (by exact fun _ _ _ h => h) (Or.inl ⟨by rfl, ?_⟩) (by assumption) ?_
         rotate_left
         ·(intro w hSw; (try dsimp only at hSw); go_simp; (try with_reducible rfl))
         (try simp only [Act.put, xL4, xL5, xL6])
         refine wpAnyH_take (i := 12) (v := ?_) (by simp only [xL1, xL2, xL3]; rfl) (by kernel_rfl) (by kernel_rfl) (by kernel_rfl) (by exact fun _ _ _ h => h) (Or.inl ⟨by rfl, ?_⟩) (by assumption) ?_
         rotate_left
         ·(intro w hSw; (try dsimp only at hSw); go_simp; (try with_reducible rfl))
         (try simp only [Act.put, xL4, xL5, xL6])
         refine wpAnyH_take (i := 13) (v := ?_) (by simp only [xL1, xL2, xL3]; rfl) (by kernel_rfl) (by kernel_rfl) (by kernel_rfl) (by exact fun _ _ _ h => h) (Or.inl ⟨by rfl, ?_⟩) (by assumption) ?_
         rotate_left
         ·(intro w hSw; (try dsimp only at hSw); go_simp; (try with_reducible rfl))
         (try simp only [Act.put, xL4, xL5, xL6])
         refine wpAnyH_ready (rs := [14]) (by kernel_rfl) (by simp) ?_
         refine AllReadyH.cons (by simp only [xL1, xL2, xL3]; rfl) (fun K hK => ?_) AllReadyH.nil
         go_simp
         refine (HQ9.out ▸ lrule_any r q hlt (by rw [← HOO.out]; exact hlt3) _ (N i) (T i) F L _ TR ht hn2 HNM.out hL hLM).mono ?_
         rintro e w31 ⟨rfl, b31⟩
         rw [HFB.out, show rpV (ev r) (some nd) = .tuple #[.int .i64 (nd : Int), .int .i64 (ev r)] from rfl]
         go_wp2_with fail
         replace ht := ht.below b31
         replace TR := TR.below b31
         replace CO := CO.below b31
         replace CQ := CQ.below b31
         replace CC := CC.below b31
         replace VM := VM.below b31
         replace VR := VR.below b31
         replace BB := BB.trans (b31.mono BB.size)
         replace BLR := BLR.trans (b31.mono BLR.size)
         clear b31
         refine hK.out _ _ ?_ (fun hH1 => ?_)
         ·exact ⟨VM.1, VM.2.1, CC.cell, CO.cell, CQ.cell⟩
         clear hK K hHeld
         (try simp only [Act.put, xL4, xL5, xL6])
         refine wpAnyH_take (i := 15) (v := ?_) (by simp only [xL1, xL2, xL3]; rfl) (by kernel_rfl) (by kernel_rfl) (by kernel_rfl) (by exact fun _ _ _ h => h) (Or.inl ⟨by rfl, ?_⟩) (by assumption) ?_
         rotate_left
         ·(intro w hSw; (try dsimp only at hSw); go_simp; (try with_reducible rfl))
         (try simp only [Act.put, xL4, xL5, xL6])
         refine wpAnyH_take (i := 16) (v := ?_) (by simp only [xL1, xL2, xL3]; rfl) (by kernel_rfl) (by kernel_rfl) (by kernel_rfl) (by exact fun _ _ _ h => h) (Or.inl ⟨by rfl, ?_⟩) (by assumption) ?_
         rotate_left
         ·(intro w hSw; (try dsimp only at hSw); go_simp; (try with_reducible rfl))
         (try simp only [Act.put, xL4, xL5, xL6])
         refine wpAnyH_take (i := 17) (v := ?_) (by simp only [xL1, xL2, xL3]; rfl) (by kernel_rfl) (by kernel_rfl) (by kernel_rfl) (by exact fun _ _ _ h => h) (Or.inl ⟨by rfl, ?_⟩) (by assumption) ?_
         rotate_left
         ·(intro w hSw; (try dsimp only at hSw); go_simp; (try with_reducible rfl))
         (try simp only [Act.put, xL4, xL5, xL6])
         refine wpAnyH_take (i := 18) (v := ?_) (by simp only [xL1, xL2, xL3]; rfl) (by kernel_rfl) (by kernel_rfl) (by kernel_rfl) (by exact fun _ _ _ h => h) (Or.inl ⟨by rfl, ?_⟩) (by assumption) ?_
         rotate_left
         ·(intro w hSw; (try dsimp only at hSw); go_simp; (try with_reducible rfl))
         (try simp only [Act.put, xL4, xL5, xL6])
         refine wpAnyH_take (i := 19) (v := ?_) (by simp only [xL1, xL2, xL3]; rfl) (by kernel_rfl) (by kernel_rfl) (by kernel_rfl) (by exact fun _ _ _ h => h) (Or.inl ⟨by rfl, ?_⟩) (by assumption) ?_
         rotate_left
         ·(intro w hSw; (try dsimp only at hSw); go_simp; (try with_reducible rfl))
         (try simp only [Act.put, xL4, xL5, xL6])
         refine wpAnyH_done (by kernel_rfl) ?_ _
         clear hH1
         obtain ⟨er, hevr⟩ : ∃ z, ev r = z := ⟨_, rfl⟩
         rw [hevr] at her HX ⊢
         clear hevr HB HI HQ
         have herb : (er != 0) = true := by simp; exact her
         obtain ⟨⟨q1, q2, q3, q4, q5, q6⟩, q7, q8⟩ := id VR
         go_wp2
         (try simp only [Exit.inBlock, Exit.then])
         refine bodyPost_ret (v := .agg #[.int .i64 er, .int .i64 0, .int .i64 (i : Int), .int .i64 (nd : Int)]) (by simp [results, go_sem, q1, q2, q3, q7]) rfl ?_
         exact ⟨_, rfl, .inr ⟨HM.out, _, HX.out, rfl⟩, below_store4 BB (by omega) _ _ _ _⟩
       ·clear XI0
        obtain rfl : q = o := by omega
        have g4 : ¬ (q : Int) < (q : Int) := by omega
        have HI2 : Hid (∀ i', i' < i + 1 → rl F (T i') (N i') r = none) := fun i' h => by
         by_cases e : i' = i
         ·subst e; exact rl_of_none hlt (fun j hj => HQ.out j (by rw [HOO.out]; exact hj))
         ·exact HI.out i' (by omega)
        clear HI HQ
        go_wp2
        go_roundw
        case rel => exact ⟨i + 1, by omega, by go_num, HI2, BL⟩
        case measure => simp [intOf]; omega
     ·have HB2 : Hid (∀ r', r' < r + 1 → ∀ i, i < k → rl F (T i) (N i) r' = none) := fun r' h i' hi' => by
       by_cases e : r' = r
       ·subst e; exact HI.out i' (by omega)
       ·exact HB.out r' (by omega) i' hi'
      clear HB HI
      obtain rfl : i = k := by omega
      have g2 : ¬ (i : Int) < (i : Int) := by omega
      go_wp2
      go_roundw
      case rel => exact ⟨r + 1, by omega, by go_num, HB2, BL⟩
      case measure => simp [intOf]; omega
   ·obtain rfl : r = 4 := by omega
    have VR := VR0.below BL
    have BB := BB0.out.trans (BL.mono BB0.out.size)
    obtain ⟨⟨q1, q2, q3, q4, q5, q6⟩, q7, q8⟩ := id VR
    go_wp2
    (try simp only [Exit.inBlock, Exit.then])
    refine bodyPost_ret (v := .agg #[.int .i64 0, .int .i64 0, .int .i64 0, .int .i64 0]) (by simp [results, go_sem, q1, q2, q3, q7]) rfl ?_
    exact ⟨_, rfl, .inr ⟨HM.out, none, .inl ⟨rfl, HB.out⟩, rfl⟩, below_store4 BB (by omega) _ _ _ _⟩

def exT (_ : Nat) (i : Nat) : Nd := if i = 0 then ⟨false, 0, 0, 1, 1, false, 0, 1⟩ else ⟨true, 0, 0, 0, 0, false, 0, 1⟩
theorem ex_chk {u : Value} (h : ChkOut 1 1 (fun _ => 2) exT u) : u = .agg #[.int .i64 11, .int .i64 0, .int .i64 0, .int .i64 1] := by
 refine h.one (.inr ⟨by decide +kernel, some (11, 0, 1), .inr ⟨1, 0, 11, 1, by omega, by omega, rfl, by decide +kernel, fun r hr i hi => ?_, fun i hi => by omega⟩, rfl⟩)
 obtain rfl : r = 0 := by omega
 obtain rfl : i = 0 := by omega
 decide +kernel
theorem none_chk {N : Nat → Nat} {T : Nat → Nat → Nd} {u : Value} (h : ChkOut 0 0 N T u) : u = .agg #[.int .i64 0, .int .i64 0, .int .i64 0, .int .i64 0] := by
 refine h.one (.inr ⟨rfl, none, .inl ⟨rfl, fun r hr i hi => by omega⟩, rfl⟩)
theorem zero_atn (w : World) : AtN w (.bool false) (.slice none 0 0) (.slice none 0 0) 0 4 := by
 have h := RatAt.raw (p := false) (K := 4) (Nums.nil .u64 w (fun _ => 0)) (fun i hi => by omega) (Nums.nil .u64 w (fun _ => 0)) (fun i hi => by omega) (by omega) (by omega)
 exact ⟨false, none, 0, 0, none, 0, 0, rfl, rfl, rfl, h⟩
theorem ex_lay (w : World) {p : Bool} {a : Option Addr} {n c : Nat} {b : Option Addr} {m d : Nat} (h1 : RepQ w (.agg #[.bool p, .slice a n c, .slice b m d]) 1) :
  ∃ W, W = (w.alloc (.cells #[.bool false, .int .i64 0, .bool false, .slice none 0 0, .slice none 0 0, .int .i64 1, .int .i64 1, .bool false, .bool false, .slice none 0 0, .slice none 0 0, .bool p, .slice a n c, .slice b m d, .bool true, .int .i64 0, .bool false, .slice none 0 0, .slice none 0 0, .int .i64 0, .int .i64 0, .bool false, .bool false, .slice none 0 0, .slice none 0 0, .bool p, .slice a n c, .slice b m d] 46)).alloc (.cells #[.slice (some ⟨w.heap.size, 0, none⟩) 2 2] 38) ∧ Below w.heap.size w W ∧ W.heap.size = w.heap.size + 2 ∧ MRow W (.slice (some ⟨w.heap.size + 1, 0, none⟩) 1 1) 1 (fun _ => 2) exT 4 := by
 obtain ⟨W1, hW1⟩ : ∃ W1, W1 = w.alloc (.cells #[.bool false, .int .i64 0, .bool false, .slice none 0 0, .slice none 0 0, .int .i64 1, .int .i64 1, .bool false, .bool false, .slice none 0 0, .slice none 0 0, .bool p, .slice a n c, .slice b m d, .bool true, .int .i64 0, .bool false, .slice none 0 0, .slice none 0 0, .int .i64 0, .int .i64 0, .bool false, .bool false, .slice none 0 0, .slice none 0 0, .bool p, .slice a n c, .slice b m d] 46) := ⟨_, rfl⟩
 have hb1 := heap_alloc_new w (.cells #[.bool false, .int .i64 0, .bool false, .slice none 0 0, .slice none 0 0, .int .i64 1, .int .i64 1, .bool false, .bool false, .slice none 0 0, .slice none 0 0, .bool p, .slice a n c, .slice b m d, .bool true, .int .i64 0, .bool false, .slice none 0 0, .slice none 0 0, .int .i64 0, .int .i64 0, .bool false, .bool false, .slice none 0 0, .slice none 0 0, .bool p, .slice a n c, .slice b m d] 46)
 rw [← hW1] at hb1
 have B1 : Below w.heap.size w W1 := by rw [hW1]; exact (Below.refl _ _).alloc (Nat.le_refl _) _
 have S1 : W1.heap.size = w.heap.size + 1 := by rw [hW1]; simp
 have B2 : Below W1.heap.size W1 (W1.alloc (.cells #[.slice (some ⟨w.heap.size, 0, none⟩) 2 2] 38)) := (Below.refl _ _).alloc (Nat.le_refl _) _
 have hb2 := heap_alloc_new W1 (.cells #[.slice (some ⟨w.heap.size, 0, none⟩) 2 2] 38)
 rw [S1] at hb2
 have q1 : RatAt W1 (.agg #[.bool p, .slice a n c, .slice b m d]) 1 4 := (h1.below B1).at 4 (by decide +kernel)
 have z64 : I64 0 := by unfold I64; omega
 have o64 : I64 1 := by unfold I64; omega
 have TR : TRow W1 (.slice (some ⟨w.heap.size, 0, none⟩) 2 2) 2 (exT 0) 4 := by
  refine ⟨fun i j => if i = 0 then [.bool false, .int .i64 0, .bool false, .slice none 0 0, .slice none 0 0, .int .i64 1, .int .i64 1, .bool false, .bool false, .slice none 0 0, .slice none 0 0, .bool p, .slice a n c, .slice b m d].getD j undef else [.bool true, .int .i64 0, .bool false, .slice none 0 0, .slice none 0 0, .int .i64 0, .int .i64 0, .bool false, .bool false, .slice none 0 0, .slice none 0 0, .bool p, .slice a n c, .slice b m d].getD j undef, ⟨_, _, rfl, by omega, by omega, fun _ => ⟨_, _, rfl, fun i hi j hj => ?_⟩⟩, fun i hi => ?_⟩
  ·rw [cell_of_row _ _ _ _ _ _ hb1]
   rcases (by omega : i = 0 ∨ i = 1) with rfl | rfl <;> rcases (by omega : j = 0 ∨ j = 1 ∨ j = 2 ∨ j = 3 ∨ j = 4 ∨ j = 5 ∨ j = 6 ∨ j = 7 ∨ j = 8 ∨ j = 9 ∨ j = 10 ∨ j = 11 ∨ j = 12 ∨ j = 13) with rfl | rfl | rfl | rfl | rfl | rfl | rfl | rfl | rfl | rfl | rfl | rfl | rfl | rfl <;> rfl
  ·rcases (by omega : i = 0 ∨ i = 1) with rfl | rfl
   ·exact ⟨rfl, rfl, zero_atn _, rfl, rfl, rfl, zero_atn _, ⟨p, a, n, c, b, m, d, rfl, rfl, rfl, q1⟩, z64, o64, o64⟩
   ·exact ⟨rfl, rfl, zero_atn _, rfl, rfl, rfl, zero_atn _, ⟨p, a, n, c, b, m, d, rfl, rfl, rfl, q1⟩, z64, z64, z64⟩
 refine ⟨_, rfl, ?_, ?_, ?_⟩
 ·rw [← hW1]; exact B1.trans (B2.mono B1.size)
 ·simp
 ·rw [← hW1]
  refine ⟨fun _ _ => .slice (some ⟨w.heap.size, 0, none⟩) 2 2, ⟨_, _, rfl, by omega, by omega, fun _ => ⟨_, _, rfl, fun i hi j hj => ?_⟩⟩, fun i hi => ?_⟩
  ·rw [cell_of_row _ _ _ _ _ _ hb2]
   obtain rfl : i = 0 := by omega
   obtain rfl : j = 0 := by omega
   rfl
  ·obtain rfl : i = 0 := by omega
   exact TR.below B2


set_option maxRecDepth 100000 in
set_option maxHeartbeats 4000000 in
theorem awake8_at (w : World) (ht : Tab w) :
  Calls Tryz.prog 17 #[] w fun e w' => e = .returned (.bool true) ∧ Below w.heap.size w w' := by
 have BB : Below w.heap.size w w := Below.refl _ _
 go_enter Tryz.func17, Tryz.ntmps17
 go_wp2_with fail
 refine (qone_at _).mono ?_
 rintro e w1 ⟨x1, rfl, h1, b1⟩
 replace ht := ht.below b1
 replace BB := BB.trans (b1.mono BB.size)
 clear b1
 obtain ⟨p1, a1, n1, c1, b1_, m1, d1, rfl⟩ := h1.open
 obtain ⟨Wa, hWa, hSa, hLa, VA⟩ := V3.lay w1 44 (.bool p1) (.slice a1 n1 c1) (.slice b1_ m1 d1)
 replace ht := ht.below hLa
 replace h1 := h1.below hLa
 replace BB := BB.trans (hLa.mono BB.size)
 obtain ⟨Wb, hWb, hLb, hSb, MR⟩ := ex_lay Wa h1
 rw [hSa] at hWb MR hSb
 replace ht := ht.below hLb
 replace BB := BB.trans (hLb.mono BB.size)
 obtain ⟨Wc, hWc, hSc, hLc, VM⟩ := V2.lay Wb 24 (.int .i64 1) (.slice (some ⟨w1.heap.size + 1 + 1, 0, none⟩) 1 1)
 replace ht := ht.below hLc
 replace MR := MR.below hLc
 replace BB := BB.trans (hLc.mono BB.size)
 obtain ⟨VA_0, VA_1, VA_2, VA_3, VA_4, VA_5⟩ := id VA
 rw [hWa] at VA_0 VA_1 VA_2 VA_3 VA_4 VA_5
 obtain ⟨VM_0, VM_1, VM_2, VM_3⟩ := id VM
 rw [hWc, hWb, hWa] at VM_0 VM_1 VM_2 VM_3
 rw [hSb] at hSc
 go_wp2_with fail
 rw [← hWa]
 rw [← hWb]
 rw [← hWc]
 clear VA_0 VA_1 VA_2 VA_3 VA_4 VA_5 VM_0 VM_1 VM_2 VM_3 hWa hWb hWc hLa hLb hLc VA VM
 refine (check_at 1 _ 1 (fun _ => 2) exT 4 _ MR ht (by omega) (by omega)).mono ?_
 rintro e w5 ⟨u, rfl, HU, b5⟩
 replace ht := ht.below b5
 replace BB := BB.trans (b5.mono BB.size)
 obtain rfl := ex_chk HU
 clear HU MR
 go_wp2_with fail
 have M0 : MRow w5 (.slice none 0 0) 0 (fun _ => 0) exT 4 := ⟨fun _ _ => .bool false, RowAt.nil _ _ _, fun i hi => by omega⟩
 refine (ok_at 0 _ 0 (fun _ => 0) exT 4 _ M0 ht (by omega) (by omega)).mono ?_
 rintro e w6 ⟨a6, s6, d6, rfl, HU, b6⟩
 replace BB := BB.trans (b6.mono BB.size)
 have he := none_chk HU
 injection he with he
 simp only [Array.mk.injEq, List.cons.injEq, Value.int.injEq] at he
 have ha6 : a6 = 0 := he.1.2
 subst ha6
 go_wp2
 go_ret
 exact ⟨rfl, BB⟩

end Go.Proofs.YthkamfddbiheoaaGreatDoor
