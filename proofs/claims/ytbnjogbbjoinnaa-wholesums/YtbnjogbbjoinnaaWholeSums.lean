/-
  Proves that Cmp, Add, Sub and Mul answer order, sum, difference and product of any two whole numbers of up to 20 limbs each, whatever comes in (the statement WholeSums); no condition.
-/
import Derived.Test.YtbnjogbbjoinnaaRows
import Derived.Test.YtbnjogbbjoinnaaWMem
import Derived.Test.YtbnjogbbjoinnaaWOpen
import Derived.WalkKit
import Derived.ProofKit
import Derived.OpenShut
import Derived.ShutString
import Derived.ChangeOld
import Derived.Below
namespace Go.Proofs.Ytbnjogbbjoinnaa.wholeSums
open Go.ChangeShapes Go.WideShapes Go.ChangeAt Go.RowKit
open Go.ChangeMaps (open_string shut_string)
set_option linter.unusedVariables false

set_option maxRecDepth 20000 in
set_option maxHeartbeats 4000000 in
theorem walk (p : Bool) (s : Value) (n0 : Nat) (f : Nat → Int) (q : Bool) (t : Value) (m0 : Nat) (g : Nat → Int) (w : World) (hs0 : Raw w s n0 f) (ht0 : Raw w t m0 g) :
    Calls Try.prog 5 #[.agg #[.bool p, s], .agg #[.bool q, t]] w fun e w' => e = .returned (.bool true) ∧ Below w.heap.size w w' := by
  have hs := hs0
  have ht := ht0
  obtain ⟨ao0, c0, rfl, _⟩ := hs0
  obtain ⟨bo0, d0, rfl, _⟩ := ht0
  have hA : ∀ o o', Below w.heap.size w ((w.alloc o).alloc o') := fun o o' => ((Below.refl _ _).alloc (Nat.le_refl _) _).alloc (by simp) _
  have r1 := res1 w (.cells #[.bool p, .slice ao0 n0 c0] 25) 25 (.bool q) (.slice bo0 m0 d0)
  have r0 := keepW (B := w.heap.size + 1) (w' := (w.alloc (.cells #[.bool p, .slice ao0 n0 c0] 25)).alloc (.cells #[.bool q, .slice bo0 m0 d0] 25)) ((Below.refl _ _).alloc (by simp) _) (by simp) (resW w 25 (.bool p) (.slice ao0 n0 c0))
  go_enter Try.func5, Try.ntmps5
  go_wp2_with fail
  refine (wfew_any _ _ _ 20 _ _ (hs.below (hA _ _)) (by omega)).mono ?_
  rintro e w1 ⟨ao, c, rfl, hu, uf, hb1⟩
  have hn : min n0 20 ≤ 20 := Nat.min_le_right _ _
  generalize min n0 20 = n at *
  have B1 : Below w.heap.size w w1 := (hA _ _).trans (hb1.mono (by simp; omega))
  obtain ⟨a1, a2, a3, a4⟩ := keepW hb1 (by simp) r0
  obtain ⟨b1, b2, b3, b4⟩ := keepW hb1 (by simp) r1
  have A0 := put2_same (x' := .bool p) (y' := .slice ao n c) ⟨a1, a2, a3, a4⟩
  have A1 := put2_other (R := w.heap.size) (R' := w.heap.size + 1) (x' := .bool p) (y' := .slice ao n c) (by omega) ⟨b1, b2, b3, b4⟩
  have I1 : IntAt ((w1.setCell ⟨w.heap.size, 0, none⟩ (.bool p)).setCell ⟨w.heap.size, 1, none⟩ (.slice ao n c)) (.agg #[.bool p, .slice ao n c]) (zof p (num f n)) 20 := ⟨_, _, _, _, _, rfl, hu.store2 a1 a2 _ _, uf, rfl, hn⟩
  have T1 := (ht.below B1).store2 a1 a2 (.bool p) (.slice ao n c)
  have B1' := below_store2 (R := w.heap.size) B1 (Nat.le_refl _) (.bool p) (.slice ao n c)
  clear r0 r1
  go_wp2_with fail
  clear a1 a2 a3 a4 b1 b2 b3 b4 hs ht hb1 hu B1
  generalize (w1.setCell ⟨w.heap.size, 0, none⟩ (.bool p)).setCell ⟨w.heap.size, 1, none⟩ (.slice ao n c) = W1 at *
  refine (wfew_any _ _ _ 20 _ _ T1 (by omega)).mono ?_
  rintro e w2 ⟨bo, d, rfl, hv, vf, hb2⟩
  have hm : min m0 20 ≤ 20 := Nat.min_le_right _ _
  generalize min m0 20 = m at *
  have B2 : Below w.heap.size w w2 := B1'.trans (hb2.mono B1'.size)
  obtain ⟨a1, a2, a3, a4⟩ := keepW hb2 (Nat.le_refl _) A0
  obtain ⟨b1, b2, b3, b4⟩ := keepW hb2 (Nat.le_refl _) A1
  have A2 := put2_same (x' := .bool q) (y' := .slice bo m d) ⟨b1, b2, b3, b4⟩
  have A3 := put2_other (R := w.heap.size + 1) (R' := w.heap.size) (x' := .bool q) (y' := .slice bo m d) (by omega) ⟨a1, a2, a3, a4⟩
  have I2 := (I1.below hb2).store2 b1 b2 (.bool q) (.slice bo m d)
  have I3 : IntAt ((w2.setCell ⟨w.heap.size + 1, 0, none⟩ (.bool q)).setCell ⟨w.heap.size + 1, 1, none⟩ (.slice bo m d)) (.agg #[.bool q, .slice bo m d]) (zof q (num g m)) 20 := ⟨_, _, _, _, _, rfl, hv.store2 b1 b2 _ _, vf, rfl, hm⟩
  have B2' := below_store2 (R := w.heap.size + 1) B2 (by omega) (.bool q) (.slice bo m d)
  clear A0 A1 I1 T1 B1'
  go_wp2_with fail
  clear a1 a2 a3 a4 b1 b2 b3 b4 hb2 hv B2
  generalize (w2.setCell ⟨w.heap.size + 1, 0, none⟩ (.bool q)).setCell ⟨w.heap.size + 1, 1, none⟩ (.slice bo m d) = W2 at *
  generalize hx : zof p (num f n) = x at *
  generalize hy : zof q (num g m) = y at *
  refine (rfrom_any _ _ _ _ I2 (by omega)).mono ?_
  rintro e w3 ⟨vx, rfl, hx3, hb3⟩
  obtain ⟨px, aox, nx, cx, rfl⟩ := hx3.open
  have hA3 : Below w3.heap.size w3 (w3.alloc (.cells #[.bool px, .slice aox nx cx] 30)) := (Below.refl _ _).alloc (Nat.le_refl _) _
  have B3 : Below w.heap.size w w3 := B2'.trans (hb3.mono B2'.size)
  have B3' : Below w.heap.size w (w3.alloc (.cells #[.bool px, .slice aox nx cx] 30)) := B3.trans (hA3.mono B3.size)
  have C0 := keepW hA3 (Nat.le_refl _) (keepW hb3 (Nat.le_refl _) A3)
  have C1 := keepW hA3 (Nat.le_refl _) (keepW hb3 (Nat.le_refl _) A2)
  have C2 := resW w3 30 (.bool px) (.slice aox nx cx)
  have I4 := (I2.below hb3).below hA3
  have I5 := (I3.below hb3).below hA3
  have J4 := hx3.below hA3
  clear A2 A3 I2 I3 hx3 B2' B3 hA3
  go_wp2_with fail
  clear hb3
  generalize w3.heap.size = R3 at *
  generalize w3.alloc (.cells #[.bool px, .slice aox nx cx] 30) = W3 at *
  refine (rfrom_any _ _ _ _ I5 (by omega)).mono ?_
  rintro e w4 ⟨vy, rfl, hy4, hb4⟩
  obtain ⟨py, aoy, ny, cy, rfl⟩ := hy4.open
  have hA4 : Below w4.heap.size w4 (w4.alloc (.cells #[.bool py, .slice aoy ny cy] 30)) := (Below.refl _ _).alloc (Nat.le_refl _) _
  have B4 : Below w.heap.size w w4 := B3'.trans (hb4.mono B3'.size)
  have B4' : Below w.heap.size w (w4.alloc (.cells #[.bool py, .slice aoy ny cy] 30)) := B4.trans (hA4.mono B4.size)
  have D0 := keepW hA4 (Nat.le_refl _) (keepW hb4 (Nat.le_refl _) C0)
  have D1 := keepW hA4 (Nat.le_refl _) (keepW hb4 (Nat.le_refl _) C1)
  have D2 := keepW hA4 (Nat.le_refl _) (keepW hb4 (Nat.le_refl _) C2)
  have D3 := resW w4 30 (.bool py) (.slice aoy ny cy)
  have F : Four w.heap.size w (.agg #[.bool p, .slice ao n c]) (.agg #[.bool q, .slice bo m d]) (.agg #[.bool px, .slice aox nx cx]) (.agg #[.bool py, .slice aoy ny cy]) x y 20 (w4.alloc (.cells #[.bool py, .slice aoy ny cy] 30)).drew :=
    ⟨B4'.drew, ((I4.below hb4).below hA4).below (Below.refl _ _).drew, ((I5.below hb4).below hA4).below (Below.refl _ _).drew, ((J4.below hb4).below hA4).below (Below.refl _ _).drew, (hy4.below hA4).below (Below.refl _ _).drew⟩
  clear C0 C1 C2 I4 I5 J4 hy4 B3' B4 hA4
  go_wp2
  clear hb4
  have HB : w.heap.size ≤ w4.heap.size + 1 := by have := B4'.size; simpa using this
  generalize hR4 : w4.heap.size = R4 at *
  generalize hW4 : w4.alloc (.cells #[.bool py, .slice aoy ny cy] 30) = W4 at *
  have S0 : W4.drew.cell? ⟨w.heap.size, 0, none⟩ = some (.bool p) ∧ W4.drew.cell? ⟨w.heap.size, 1, none⟩ = some (.slice ao n c) ∧ W4.drew.cell? ⟨w.heap.size + 1, 0, none⟩ = some (.bool q) ∧ W4.drew.cell? ⟨w.heap.size + 1, 1, none⟩ = some (.slice bo m d) ∧ W4.drew.cell? ⟨R3, 0, none⟩ = some (.bool px) ∧ W4.drew.cell? ⟨R3, 1, none⟩ = some (.slice aox nx cx) ∧ W4.drew.cell? ⟨R4, 0, none⟩ = some (.bool py) ∧ W4.drew.cell? ⟨R4, 1, none⟩ = some (.slice aoy ny cy) :=
    ⟨D0.1, D0.2.1, D1.1, D1.2.1, D2.1, D2.2.1, D3.1, D3.2.1⟩
  have z0 : w.heap.size ≤ W4.drew.heap.size := F.bel.size
  have lx := F.a.nl
  have ly := F.b.nl
  have lxy : nl W32 (x + y).natAbs ≤ 21 := nlz_add lx ly (by omega) (by omega)
  have lsy : nl W32 (x + -y).natAbs ≤ 21 := nlz_add lx (nlz_neg ly) (by omega) (by omega)
  have lm : nl W32 (x * y).natAbs ≤ 40 := nlz_mul lx ly (by omega)
  clear D0 D1 D2 D3 B4' hR4 hW4 HB hx hy
  go_region_held3 (fun w' => w'.cell? ⟨w.heap.size, 0, none⟩ = some (.bool p) ∧ w'.cell? ⟨w.heap.size, 1, none⟩ = some (.slice ao n c) ∧ w'.cell? ⟨w.heap.size + 1, 0, none⟩ = some (.bool q) ∧ w'.cell? ⟨w.heap.size + 1, 1, none⟩ = some (.slice bo m d) ∧ w'.cell? ⟨R3, 0, none⟩ = some (.bool px) ∧ w'.cell? ⟨R3, 1, none⟩ = some (.slice aox nx cx) ∧ w'.cell? ⟨R4, 0, none⟩ = some (.bool py) ∧ w'.cell? ⟨R4, 1, none⟩ = some (.slice aoy ny cy)) (first | exact keep44 (by assumption) (by exact Nat.le_refl _) (by assumption) | exact S0) (first
    | (go_at_call 25; refine (wcmp_any _ _ _ _ _ _ _ F.a F.b).mono ?_; rintro e u1 ⟨rfl, k1⟩; have F1 := F.next F.bel.size k1)
    | (go_at_call 12; refine (rorder_any _ _ _ _ _ F1.jx F1.jy).mono ?_; rintro e u2 ⟨rfl, k2⟩; have F2 := F1.next F1.bel.size k2)
    | (go_at_call 26; refine (wadd_any _ _ _ _ _ _ _ F2.a F2.b (by omega) (by omega)).mono ?_; rintro e u3 ⟨ra, rfl, hra, k3⟩; have F3 := F2.next F2.bel.size k3)
    | (go_at_call_of 27 aoy; refine (rplus_any _ _ _ _ _ F3.jx F3.jy (nlj lx (by omega)) (nlj ly (by omega))).mono ?_; rintro e u4 ⟨rp, rfl, hrp, k4⟩; have F4 := F3.next F3.bel.size k4; have hra4 := hra.below k4)
    | (go_at_call_of 15 ra; refine (ris_rep _ _ _ _ hra4 (by omega) hrp).mono ?_; rintro e u5 ⟨rfl, k5⟩; have F5 := F4.next F4.bel.size k5)
    | (go_at_call 28; refine (wsub_any _ _ _ _ _ _ _ F5.a F5.b (by omega) (by omega)).mono ?_; rintro e u6 ⟨rs, rfl, hrs, k6⟩; have F6 := F5.next F5.bel.size k6; rw [Int.sub_eq_add_neg] at hrs)
    | (go_at_call 19; refine (rminus_any _ _ _ F6.jy).mono ?_; rintro e u7 ⟨rm, rfl, hrm, k7⟩; have F7 := F6.next F6.bel.size k7)
    | (go_at_call_of 27 rm; refine (rplus_any _ _ _ _ _ F7.jx hrm (nlj lx (by omega)) (nlj (nlz_neg ly) (by omega))).mono ?_; rintro e u8 ⟨rq, rfl, hrq, k8⟩; have F8 := F7.next F7.bel.size k8; have hrs8 := (hrs.below k7).below k8)
    | (go_at_call_of 15 rs; refine (ris_rep _ _ _ _ hrs8 (by omega) hrq).mono ?_; rintro e u9 ⟨rfl, k9⟩; have F9 := F8.next F8.bel.size k9)
    | (go_at_call 29; refine (wmul_any _ _ _ _ _ _ _ F9.a F9.b (by omega)).mono ?_; rintro e u10 ⟨rt, rfl, hrt, k10⟩; have F10 := F9.next F9.bel.size k10)
    | (go_at_call 30; refine (rtimes_any _ _ _ _ _ F10.jx F10.jy (nlj lx (by omega)) (nlj ly (by omega))).mono ?_; rintro e u11 ⟨rv, rfl, hrv, k11⟩; have F11 := F10.next F10.bel.size k11; have hrt11 := hrt.below k11)
    | (go_at_call_of 15 rt; refine (ris_rep _ _ _ _ hrt11 (by omega) hrv).mono ?_; rintro e u12 ⟨rfl, k12⟩; have F12 := F11.next F11.bel.size k12)
    | (go_at_call 22; refine (wawake_any _).mono ?_; rintro e u13 ⟨rfl, k13⟩; have F13 := F12.next F12.bel.size k13))
  go_wp2
  go_ret
  exact ⟨rfl, F13.bel⟩

theorem own : ownKnob Try.prog.godebug = none := by kernel_rfl
theorem laidOut : laidOutB Try.prog = true := by kernel_rfl

set_option maxRecDepth 100000 in
theorem lifted (os : Os) (started : os.Started) (H : Type) (enc : TypeId × Value → H) :
    ReturnsInHanded {} Try.checked os 5 .any (Rows.wholeSumsSpec.pre6 enc Try.prog Try.f5 Rows.wholeSumsRow.domain false) (Rows.wholeSumsSpec.post enc Try.prog Try.f5 false true false false) := by
  refine returnsInHanded_of_change (C := Try.checked) own started (by kernel_rfl) Try.func5
    (ChangeSpec.witness6 (enc := enc) (C := Try.checked) false ⟨#[], #[.agg #[.bool false, .slice none 0 0], .agg #[.bool false, .slice none 0 0]], []⟩ 8 (by kernel_rfl) (by kernel_rfl) (by kernel_rfl) (by kernel_rfl)) ?_
  intro W base args ds gs before hval0 hW hcnd _
  have hval : ∀ (j : Nat) t v, Try.f5.params[j]? = some t → args[j]? = some v → Value.okWide Try.prog W .any base t v := hval0
  have hW' := hW
  obtain ⟨p, q, hA0, hV, rfl, hfz, hnd⟩ := hW
  have hA : DataW.TrodAll enc Try.prog W 0 (fun _ => true) true Try.f5.params.toList args.toList ds p := hA0
  rw [Try.params5] at hA hval
  obtain ⟨v0, vs0, d0, ds0, p0, q0, hargs, rfl, rfl, h0, r0⟩ := trodAll_cons hA
  obtain ⟨v1, vs1, d1, ds1, p1, q1, rfl, rfl, rfl, h1, r1⟩ := trodAll_cons r0
  obtain ⟨rfl, rfl, rfl⟩ := trodAll_nil r1
  obtain rfl : args = #[v0, v1] := by cases args; simp_all
  obtain ⟨rfl, rfl⟩ := trodVars_none hV
  have k0 := h0
  have lt0 : ∀ x ∈ p0, x.block < W.heap.size := by obtain ⟨m, hm⟩ := k0; exact DataW.trod_lt m _ _ _ hm
  obtain ⟨neg0, ao0, n0, c0, f0, rfl, w0⟩ := open_wint (hval 0 25 v0 rfl rfl) h0
  have k1 := h1
  have lt1 : ∀ x ∈ p1, x.block < W.heap.size := by obtain ⟨m, hm⟩ := k1; exact DataW.trod_lt m _ _ _ hm
  obtain ⟨neg1, ao1, n1, c1, f1, rfl, w1⟩ := open_wint (hval 1 25 v1 rfl rfl) h1
  clear hA0 hval0
  refine (walk _ _ _ _ _ _ _ _ W w0 w1).mono fun e W' ⟨he, bel⟩ => ?_
  subst he
  exact ⟨_, rfl, _, _, _, [], _, [], hW', trodAll_mk1 (shut_bool Try.underlying4 _), (trodAll_cons_mk (Below.trod laidOut (by kernel_rfl) (of_decide_eq_true (by kernel_rfl)) k0 bel lt0) (trodAll_cons_mk (Below.trod laidOut (by kernel_rfl) (of_decide_eq_true (by kernel_rfl)) k1 bel lt1) trodAll_mk0)), rfl, bel.frame _, fun h => by cases h⟩

theorem over : Rows.wholeSumsRow.holds Try.pinned (OpenSpec.ofChange Rows.wholeSumsSpec) :=
  OpenClaim.holds_of_wide 5 Try.f5 rfl rfl rfl rfl rfl rfl rfl ⟨rfl, rfl, rfl, rfl, rfl⟩ rfl rfl rfl rfl rfl (by kernel_rfl) Try.func5 (by kernel_rfl)
    (of_decide_eq_true (by kernel_rfl)) (by unfold Func.isWrapper; first | (rw [if_pos (by decide +kernel)]; kernel_rfl) | (rw [if_neg (by decide +kernel)]; exact ⟨rfl, rfl⟩))
    (fun os started H enc _ => lifted os started H enc)

end Go.Proofs.Ytbnjogbbjoinnaa.wholeSums
namespace Go.Proofs.Ytbnjogbbjoinnaa
/-- The statement. -/
theorem wholeSums_holds : Rows.WholeSumsSaid := wholeSums.over
end Go.Proofs.Ytbnjogbbjoinnaa
